/- DiffTouches of package topiarylaw18 is proved at this commit, in its second form: for every input (a tree, a tree) of bulk at most 1048576 the call returns true and the arguments read as they did. (The first form is false by size alone.) -/
import Derived.Test.YthhnglpkfcmjiaaZDx
import Derived.Test.YthhnglpkfcmjiaaZDv
import Derived.Deep.CutRange
import Derived.Test.YthhnglpkfcmjiaaBaseM
import Derived.Deep.CondSized
namespace Go.Proofs.Ythhnglpkfcmjiaa
open Go.RowKit Go.Shelf
set_option linter.unusedVariables false
set_option linter.unusedSimpArgs false

def ownB (x y : VT) : Bool := decide (x.tg ≠ y.tg) || decide (x.tx ≠ y.tx) || !decide (x.at_ = y.at_)
theorem wrA_key (k : St) : ∀ (n : Nat) (O A : List At), O.length + A.length ≤ n → ∀ p ∈ wrA k O A, p.k = k
  | n, [], [], _, p, h => by rw [wrA] at h; simp at h
  | n + 1, o :: r, [], hn, p, h => by
    rw [wrA] at h
    rcases List.mem_cons.1 h with rfl | h
    · rfl
    · exact wrA_key k n r [] (by simp at hn ⊢; omega) p h
  | n + 1, [], a :: s, hn, p, h => by
    rw [wrA] at h
    rcases List.mem_cons.1 h with rfl | h
    · rfl
    · exact wrA_key k n [] s (by simp at hn ⊢; omega) p h
  | 0, o :: r, A, hn, _, _ => by simp at hn
  | 0, [], a :: s, hn, _, _ => by simp at hn
  | n + 1, o :: r, a :: s, hn, p, h => by
    rw [wrA] at h
    simp only [List.length_cons] at hn
    split at h
    · rcases List.mem_cons.1 h with rfl | h
      · rfl
      · exact wrA_key k n r (a :: s) (by simp; omega) p h
    · split at h
      · rcases List.mem_cons.1 h with rfl | h
        · rfl
        · exact wrA_key k n (o :: r) s (by simp; omega) p h
      · rcases List.mem_append.1 h with h | h
        · split at h
          · simp at h
          · simp at h; subst h; rfl
        · exact wrA_key k n r s (by omega) p h
theorem wrL_own {D : List Sd} {n : VT} {p : Pa} (h : p ∈ wrL D n) : p.k = n.k ∧ ownB (oldD D n) n = true := by
  unfold wrL at h
  unfold ownB
  rcases List.mem_append.1 h with h | h
  · rcases List.mem_append.1 h with h | h
    · unfold tgR at h; split at h
      · simp at h
      · rename_i q
        simp at h; subst h; exact ⟨rfl, by simp; exact .inl (.inl fun e => q e.symm)⟩
    · unfold txR at h; split at h
      · simp at h
      · rename_i q
        simp at h; subst h; exact ⟨rfl, by simp; exact .inl (.inr fun e => q e.symm)⟩
  · refine ⟨wrA_key _ _ _ _ (Nat.le_refl _) p h, ?_⟩
    by_cases e : (oldD D n).at_ = n.at_
    · rw [e, wrA_self] at h
      simp at h
    · simp [e]
section
variable {w : World} {a b : VT} {Ba Bb : Nat}
theorem plK_sh {D : List Sd} {L : List St} {q s : St} {x : VT} {p : Pa} (h : p ∈ plK D L q s x) : p.k = x.k ∧ ((p.kd = 5 ∧ x.k ∈ L) ∨ (p.kd ≠ 5 ∧ (getP skU D x.k = none ∨ ∃ y, getP skU D x.k = some y ∧ y.a ≠ q))) := by
  unfold plK at h
  split at h
  · rename_i hg
    rcases List.mem_cons.1 h with rfl | h
    · exact ⟨rfl, .inr ⟨by simp [pM], .inl hg⟩⟩
    · simp at h; subst h; exact ⟨rfl, .inr ⟨by simp [pP], .inl hg⟩⟩
  · rename_i y hg
    split at h
    · split at h
      · rename_i hm
        simp at h; subst h; exact ⟨rfl, .inl ⟨rfl, hm⟩⟩
      · simp at h
    · rename_i hne
      simp at h; subst h; exact ⟨rfl, .inr ⟨by simp [pP], .inr ⟨y, hg, hne⟩⟩⟩
theorem ofL_touch (hna : ((flT a).map VT.k).Nodup) (hnb : ((flT b).map VT.k).Nodup) (hk : a.k = b.k) : ∀ p ∈ ofL (flatS w a (0, 0) 0 Ba 0) (flatS w b (0, 0) 0 Bb 0), hasT a p.k = true → hasT b p.k = true → aboT a b p.k = true → (p.kd = 5 → wasT b (parR [] (flatD b 0) p.k).1 ∈ flT b ∧ hasS (shD a b (wasT b (parR [] (flatD b 0) p.k).1)) p.k = true) ∧ (p.kd ≠ 5 → ownB (wasT a p.k) (wasT b p.k) = true) := by
  intro p hp ha hb hab
  have hkp := ofL_keep (w := w) (Ba := Ba) (Bb := Bb) hna hnb hk p hp
  unfold ofL at hp
  rcases List.mem_append.1 hp with h | h
  · exfalso
    have h12 : p.kd = 1 ∨ p.kd = 2 := by
      unfold lvL at h
      rcases List.mem_append.1 h with h | h
      · unfold eaL at h
        obtain ⟨x, _, rfl⟩ := List.mem_map.1 h
        exact .inl rfl
      · unfold eaL at h
        obtain ⟨x, _, rfl⟩ := List.mem_map.1 h
        exact .inr rfl
    rcases h12 with h1 | h2
    · rcases hkp.tk h1 with q | q | q
      · rw [ha] at q; cases q
      · rw [hb] at q; cases q
      · rw [hab] at q; cases q
    · rcases hkp.ma (.inr h2) with q | q
      · rw [ha] at q; cases q
      · rw [hb] at q; cases q
  · obtain ⟨n, hn, h⟩ := List.mem_flatMap.1 h
    unfold ofS at h
    rcases List.mem_append.1 h with h | h
    · obtain ⟨e1, e2⟩ := wrL_own h
      refine ⟨fun q => ?_, fun _ => ?_⟩
      · rcases wrL_kd h with e | e | e | e <;> (rw [e] at q; exact absurd q (by decide))
      · rw [e1] at ha ⊢
        obtain ⟨y, hy, hyk⟩ := hasT_get (w := w) (B := Ba) ha
        have h1 : oldD (flatS w a (0, 0) 0 Ba 0) n.t = y.t := by
          unfold oldD
          rw [← hyk, get_of (flat_nodup hna) hy]
        have h2 : wasT a n.t.k = y.t := by
          unfold wasT
          rw [← hyk, fnd_of hna (sd_flT hy)]
          rfl
        have h3 : wasT b n.t.k = n.t := by
          unfold wasT
          rw [fnd_of hnb (sd_flT hn)]
          rfl
        rw [h2, h3, ← h1]
        exact e2
    · obtain ⟨x, hx, s, h⟩ := plL_mem _ _ h
      obtain ⟨hpk, hc⟩ := plK_sh h
      rw [hpk] at ha hb hab ⊢
      have hpb := par_kid hnb (sd_flT hn) hx
      rcases hc with ⟨h5, hm⟩ | ⟨h5, hc⟩
      · refine ⟨fun _ => ?_, fun q => absurd h5 q⟩
        rw [hpb]
        have h3 : wasT b n.t.k = n.t := by
          unfold wasT
          rw [fnd_of hnb (sd_flT hn)]
          rfl
        rw [shL_doc hna hnb hk hn] at hm
        show wasT b n.t.k ∈ flT b ∧ hasS (shD a b (wasT b n.t.k)) x.k = true
        rw [h3]
        refine ⟨sd_flT hn, ?_⟩
        unfold hasS
        rw [List.any_eq_true]
        exact ⟨x.k, hm, by simp⟩
      · exfalso
        rcases hc with hg | ⟨y, hg, hne⟩
        · have h1 : hasT a x.k = false := hasT_no (w := w) (B := Ba) fun z hz => getP_not hg z hz
          rw [ha] at h1; cases h1
        · obtain ⟨hy, hyk⟩ := getP_key hg
          have hyk : y.t.k = x.k := hyk
          have hny : y.t.k ≠ a.k := fun e => by
            obtain ⟨j, hj, rfl⟩ := List.getElem_of_mem hx
            exact und_ne hnb hn hj (by rw [← hyk, e, hk])
          have hpa := par_und hna hy hny
          rw [hyk] at hpa
          unfold aboT at hab
          rw [hpa, hpb] at hab
          simp only [decide_eq_true_eq, Prod.mk.injEq, and_true] at hab
          exact hne hab
end

end Go.Proofs.Ythhnglpkfcmjiaa

namespace Go.Proofs.Ythhnglpkfcmjiaa
open Go.RowKit Go.Shelf
set_option linter.unusedVariables false
set_option linter.unusedSimpArgs false

attribute [local go_sem] Oper.semAt_some

/-- What stands while the steps are gone through: both trees, the row of steps. -/
structure EtS (w : World) (a b : VT) (CA CB : Array Value) (ab bb N : Nat) (la : Option Addr) (D : List Pa) (W : World) : Prop where
  r1 : W.heap[ab]? = some (.cells CA 27)
  r2 : W.heap[bb]? = some (.cells CB 27)
  va : VIs (fun k => k < w.heap.size) W (.agg CA) a
  vb : VIs (fun k => k < w.heap.size) W (.agg CB) b
  ol : D = [] ∨ ∃ lg, la = some ⟨lg, 0, none⟩ ∧ (lg < W.heap.size ∧ ∀ i (h : i < D.length) (j : Nat) (u : Value), (paCells D[i])[j]? = some u → W.cell? ⟨lg, i * 9 + j, none⟩ = some u)
  bel : Below w.heap.size w W
section
variable {w W W' : World} {a b : VT} {CA CB : Array Value} {ab bb N : Nat} {la : Option Addr} {D : List Pa}
theorem EtS.below (h : EtS w a b CA CB ab bb N la D W) (hb : Below W.heap.size W W') : EtS w a b CA CB ab bb N la D W' := ⟨(hb.block _ (row_lt h.r1)).trans h.r1, (hb.block _ (row_lt h.r2)).trans h.r2, h.va.below hb, h.vb.below hb, h.ol.imp id fun ⟨lg, h0, h2, h3⟩ => ⟨lg, h0, Nat.lt_of_lt_of_le h2 hb.size, fun i hi j u q => (World.cell?_of_block (hb.block _ h2)).trans (h3 i hi j u q)⟩, h.bel.trans (hb.mono h.bel.size)⟩
end
theorem row_et {B : Nat} {W : World} {v : Value} {D : List Pa} (h : OwnPa B W v D) : ∃ (la : Option Addr) (lc : Nat), v = .slice la D.length lc ∧ (D = [] ∨ ∃ lg, la = some ⟨lg, 0, none⟩ ∧ lg < W.heap.size ∧ ∀ i (h : i < D.length) (j : Nat) (u : Value), (paCells D[i])[j]? = some u → W.cell? ⟨lg, i * 9 + j, none⟩ = some u) := by
  obtain ⟨la, lc, e⟩ := OwnE.form h
  subst e
  refine ⟨la, lc, rfl, ?_⟩
  by_cases hD : D = []
  · exact .inl hD
  · right
    have h0 : 0 < D.length := by cases D with | nil => exact absurd rfl hD | cons _ _ => simp
    obtain ⟨g, cp, e1, _, _, _⟩ := OwnE.cells pzLen h h0
    injection e1 with e1 _ _
    subst e1
    refine ⟨g, rfl, (OwnE.lt h g rfl).2, fun i hi j u hj => ?_⟩
    obtain ⟨g2, cp2, e2, _, hc, _⟩ := OwnE.cells pzLen h hi
    injection e2 with e2 _ _
    injection e2 with e2
    injection e2 with e2 _ _
    subst e2
    exact hc j u hj
theorem ofL_lent {a b : VT} (X : World) (Ba Bb : Nat) (hf : ((flT a).map VT.k).Nodup ∧ (a.sz ≤ 8192 ∧ b.sz ≤ 8192) ∧ (∀ x ∈ flT a, x.at_.length ≤ 4096) ∧ (∀ x ∈ flT b, x.at_.length ≤ 4096 ∧ x.ks.length ≤ 8192)) : (ofL (flatS X a (0, 0) 0 Ba 0) (flatS X b (0, 0) 0 Bb 0)).length ≤ 1048576000 := by
  obtain ⟨_, ⟨h1, h2⟩, h3, h4⟩ := hf
  have hA : ∀ y ∈ flatS X a (0, 0) 0 Ba 0, y.t.at_.length ≤ 4096 := fun y hy => h3 _ (by rw [← flatS_t X a (0, 0) 0 Ba 0]; exact List.mem_map.2 ⟨y, hy, rfl⟩)
  have hB : ∀ y ∈ flatS X b (0, 0) 0 Bb 0, y.t.at_.length ≤ 4096 ∧ y.t.ks.length ≤ 8192 := fun y hy => h4 _ (by rw [← flatS_t X b (0, 0) 0 Bb 0]; exact List.mem_map.2 ⟨y, hy, rfl⟩)
  have h5 := ofP_len hA _ hB
  have h6 := lvL_len (flatS X a (0, 0) 0 Ba 0) (flatS X b (0, 0) 0 Bb 0)
  rw [flatS_len] at h5 h6
  unfold ofL
  rw [List.length_append]
  omega
/-- What a step of a node is that both have beneath the same one. -/
def TouP (a b : VT) (p : Pa) : Prop := hasT a p.k = true → hasT b p.k = true → aboT a b p.k = true → (p.kd = 5 → wasT b (parR [] (flatD b 0) p.k).1 ∈ flT b ∧ hasS (shD a b (wasT b (parR [] (flatD b 0) p.k).1)) p.k = true) ∧ (p.kd ≠ 5 → ownB (wasT a p.k) (wasT b p.k) = true)

set_option maxRecDepth 100000 in
set_option maxHeartbeats 8000000 in
theorem diffTouches_walk (va : Value) (a : VT) (vb : Value) (b : VT) (w : World) (ha : VIs (fun _ => True) w va a) (hba : BnA a) (hsa : a.sz ≤ 1048576) (hb : VIs (fun _ => True) w vb b) (hbb : BnA b) (hsb : b.sz ≤ 1048576) :
    Calls Try.prog 8 #[va, vb] w fun e w' => e = .returned (.bool true) ∧ Below w.heap.size w w' := by
  replace ha := ha.turn (G' := fun k => k < w.heap.size) (Nat.le_refl _) fun k _ q => ⟨q, rfl⟩
  replace hb := hb.turn (G' := fun k => k < w.heap.size) (Nat.le_refl _) fun k _ q => ⟨q, rfl⟩
  obtain ⟨aa, ca, ak, da, e1, _⟩ := ha.form
  obtain ⟨ba, cb, bk, db, e2, _⟩ := hb.form
  subst e1 e2
  obtain ⟨W0, eW⟩ : ∃ X, X = (w.alloc (.cells #[.int .i64 a.k.1, .int .i64 a.k.2, .string a.tg, .string a.tx, .slice aa a.at_.length ca, .slice ak a.ks.length da] 27)).alloc (.cells #[.int .i64 b.k.1, .int .i64 b.k.2, .string b.tg, .string b.tx, .slice ba b.at_.length cb, .slice bk b.ks.length db] 27) := ⟨_, rfl⟩
  have hb0 : Below w.heap.size w W0 := (by rw [eW]; exact ((Below.refl _ _).alloc (Nat.le_refl _) _).alloc (by simp) _)
  have HR1 : Hid (W0.heap[w.heap.size]? = some (.cells #[.int .i64 a.k.1, .int .i64 a.k.2, .string a.tg, .string a.tx, .slice aa a.at_.length ca, .slice ak a.ks.length da] 27)) := (by show _ = _; rw [eW, Below.heap_alloc _ _ _ (by simp)]; exact heap_alloc_new _ _)
  have HR2 : Hid (W0.heap[w.heap.size + 1]? = some (.cells #[.int .i64 b.k.1, .int .i64 b.k.2, .string b.tg, .string b.tx, .slice ba b.at_.length cb, .slice bk b.ks.length db] 27)) := (by show _ = _; rw [eW]; have h9 := heap_alloc_new (w.alloc (.cells #[.int .i64 a.k.1, .int .i64 a.k.2, .string a.tg, .string a.tx, .slice aa a.at_.length ca, .slice ak a.ks.length da] 27)) (.cells #[.int .i64 b.k.1, .int .i64 b.k.2, .string b.tg, .string b.tx, .slice ba b.at_.length cb, .slice bk b.ks.length db] 27); rw [show (w.alloc (.cells #[.int .i64 a.k.1, .int .i64 a.k.2, .string a.tg, .string a.tx, .slice aa a.at_.length ca, .slice ak a.ks.length da] 27)).heap.size = w.heap.size + 1 by simp] at h9; exact h9)
  have HA : Hid (VIs (fun k => k < w.heap.size) W0 (.agg #[.int .i64 a.k.1, .int .i64 a.k.2, .string a.tg, .string a.tx, .slice aa a.at_.length ca, .slice ak a.ks.length da]) a) := ha.below hb0
  have HB : Hid (VIs (fun k => k < w.heap.size) W0 (.agg #[.int .i64 b.k.1, .int .i64 b.k.2, .string b.tg, .string b.tx, .slice ba b.at_.length cb, .slice bk b.ks.length db]) b) := hb.below hb0
  have HE := hide9 eW
  have HL := hide9 hb0
  clear eW hb0 ha hb
  go_enter Try.func8, Try.ntmps8
  go_upto_region 1 with fail
  rw [← HE.out]
  clear HE
  obtain ⟨y0, y1, y2, y3, y4, y5⟩ := row6d HR1.out
  obtain ⟨z0, z1, z2, z3, z4, z5⟩ := row6d HR2.out
  go_wp2_with fail
  clear y0 y1 y2 y3 y4 y5
  clear z0 z1 z2 z3 z4 z5
  refine (light_any _ _ a b _ _ _ HA.out HB.out hsa hsb).mono ?_
  rintro e w1 ⟨rfl, hb1⟩
  replace HL := hide9 (HL.out.trans (hb1.mono HL.out.size))
  replace HA := hide9 (HA.out.below hb1)
  replace HB := hide9 (HB.out.below hb1)
  replace HR1 := hide9 ((hb1.block _ (row_lt HR1.out)).trans HR1.out)
  replace HR2 := hide9 ((hb1.block _ (row_lt HR2.out)).trans HR2.out)
  clear hb1
  obtain ⟨lt, elt⟩ : ∃ x : Bool, x = (decide (a.sz ≤ 60) && decide (b.sz ≤ 60)) := ⟨_, rfl⟩
  rw [← elt]
  clear elt
  cases lt with
  | false =>
    clear HA HB HR1 HR2
    go_wp2_with fail
    refine (awakeD_any _).mono ?_
    rintro e w9 ⟨rfl, hb9⟩
    have HZ : Hid (Below w.heap.size w w9) := HL.out.trans (hb9.mono HL.out.size)
    clear hb9
    go_wp2
    (try rw [Exit.noGoto_ret])
    go_ret
    exact ⟨rfl, HZ.out⟩
  | true =>
    obtain ⟨y0, y1, y2, y3, y4, y5⟩ := row6d HR1.out
    obtain ⟨z0, z1, z2, z3, z4, z5⟩ := row6d HR2.out
    go_wp2_with fail
    clear y0 y1 y2 y3 y4 y5
    clear z0 z1 z2 z3 z4 z5
    refine (of_any _ a b _ _ _ HA.out HB.out hsa hba hsb hbb).mono ?_
    rintro e w2 ⟨v, c, rfl, hP, hb2⟩
    replace HL := hide9 (HL.out.trans (hb2.mono HL.out.size))
    replace HA := hide9 (HA.out.below hb2)
    replace HB := hide9 (HB.out.below hb2)
    replace HR1 := hide9 ((hb2.block _ (row_lt HR1.out)).trans HR1.out)
    replace HR2 := hide9 ((hb2.block _ (row_lt HR2.out)).trans HR2.out)
    clear hb2
    by_cases hy : whyD a b = 0
    · unfold OfP at hP
      rw [if_pos hy] at hP
      obtain ⟨rfl, X, Ba, Bb, ho⟩ := hP
      obtain ⟨g1, g2, g3⟩ := why_right hy
      have hto := ofL_touch (w := X) (Ba := Ba) (Bb := Bb) (right_nodup g1) (right_nodup g2) g3
      have hdl := ofL_lent X Ba Bb (why_facts hy)
      obtain ⟨D, eD⟩ : ∃ D, D = ofL (flatS X a (0, 0) 0 Ba 0) (flatS X b (0, 0) 0 Bb 0) := ⟨_, rfl⟩
      rw [← eD] at ho hto hdl
      have HTo : Hid (∀ p ∈ D, TouP a b p) := hto
      have Hri : Hid (((flT a).map VT.k).Nodup ∧ ((flT b).map VT.k).Nodup ∧ a.k = b.k) := ⟨right_nodup g1, right_nodup g2, g3⟩
      clear hto eD g1 g2 g3 hy
      obtain ⟨la, lc, el, hol⟩ := row_et ho
      subst el
      have HDl : Hid (D.length ≤ 1048576000) := hdl
      obtain ⟨CA, eCA⟩ : ∃ c : Array Value, c = #[.int .i64 a.k.1, .int .i64 a.k.2, .string a.tg, .string a.tx, .slice aa a.at_.length ca, .slice ak a.ks.length da] := ⟨_, rfl⟩
      obtain ⟨CB, eCB⟩ : ∃ c : Array Value, c = #[.int .i64 b.k.1, .int .i64 b.k.2, .string b.tg, .string b.tx, .slice ba b.at_.length cb, .slice bk b.ks.length db] := ⟨_, rfl⟩
      have HCA := hide9 eCA
      have HCB := hide9 eCB
      obtain ⟨N, eN⟩ : ∃ n, n = w2.heap.size := ⟨_, rfl⟩
      obtain ⟨ab, eab⟩ : ∃ n, n = w.heap.size := ⟨_, rfl⟩
      obtain ⟨bb, ebb⟩ : ∃ n, n = w.heap.size + 1 := ⟨_, rfl⟩
      have HS : Hid (EtS w a b CA CB ab bb N la D w2) := ⟨by rw [eab, eCA]; exact HR1.out, by rw [ebb, eCB]; exact HR2.out, by rw [eCA]; exact HA.out, by rw [eCB]; exact HB.out, hol, HL.out⟩
      have HEb := hide9 (And.intro eab ebb)
      clear hol ho hdl eCA eCB eab ebb eN HA HB HR1 HR2 HL
      rw [← HEb.out.2, ← HEb.out.1]
      go_wp2
      go_loopw [7] (fun iv wr => ∃ i : Nat, iv = .int .i64 (i : Int) ∧ i ≤ D.length ∧ Hid (EtS w a b CA CB ab bb N la D wr)) (fun iv _ => D.length - (intOf iv).toNat)
      case atStart => exact ⟨0, rfl, Nat.zero_le _, HS⟩
      case round =>
        clear HS
        obtain ⟨i, rfl, hi, HS⟩ := hrel
        have hdl9 : D.length ≤ 1048576000 := HDl.out
        by_cases hlt : i < D.length
        · obtain ⟨lg, ela, _⟩ := HS.out.ol.resolve_left (fun e => by rw [e] at hlt; simp at hlt)
          subst ela
          obtain ⟨p, ep⟩ : ∃ p, p = D[i] := ⟨_, rfl⟩
          have Hp9 := hide9 ep
          have Htp : Hid (TouP a b p) := (by show TouP _ _ _; rw [ep]; exact HTo.out _ (List.getElem_mem hlt))
          clear ep
          have k1 : (i : Int) < (D.length : Int) := by omega
          have k0 : (0 : Int) ≤ (i : Int) := by omega
          have Hlg : Hid (lg < wr.heap.size ∧ wr.cell? ⟨lg, i * 9, none⟩ = some (.int .i64 p.kd) ∧ wr.cell? ⟨lg, i * 9 + 1, none⟩ = some (.int .i64 p.k.1) ∧ wr.cell? ⟨lg, i * 9 + 1 + 1, none⟩ = some (.int .i64 p.k.2)) := (by obtain ⟨_, hx0, h2, h3⟩ := HS.out.ol.resolve_left (fun e => by rw [e] at hlt; simp at hlt); injection hx0 with hx0; injection hx0 with hx0 _ _; subst hx0; exact ⟨h2, by rw [Hp9.out]; exact h3 i hlt 0 _ rfl, by rw [Hp9.out]; exact h3 i hlt 1 _ rfl, by rw [Hp9.out]; exact h3 i hlt 2 _ rfl⟩)
          obtain ⟨ha9, eha⟩ : ∃ v : Bool, hasT a p.k = v := ⟨_, rfl⟩
          obtain ⟨hb9, ehb⟩ : ∃ v : Bool, hasT b p.k = v := ⟨_, rfl⟩
          have Hha := hide9 eha
          have Hhb := hide9 ehb
          clear eha ehb
          go_upto_region 9 with fail
          go_cut [8, 9] from 31 to 136 (fun v8 v9 W => ∃ (nb : Nat) (x : VT) (xa : Option Addr) (xc : Nat) (xk : Option Addr) (xd : Nat), v8 = .pointer (some ⟨nb, 0, none⟩) ∧ v9 = .bool ha9 ∧ Hid (wasT a p.k = x) ∧ Hid (W.heap[nb]? = some (.cells #[.int .i64 x.k.1, .int .i64 x.k.2, .string x.tg, .string x.tx, .slice xa x.at_.length xc, .slice xk x.ks.length xd] 27)) ∧ Hid (LsE atCells 2 (fun k => k < w.heap.size) W (.slice xa x.at_.length xc) x.at_) ∧ Hid (EtS w a b CA CB ab bb N (some ⟨lg, 0, none⟩) D W))
          case first =>
            have HS0 : Hid (EtS w a b CA CB ab bb N (some ⟨lg, 0, none⟩) D wr) := HS
            refine wp_region_held_drew (S := fun W' => Below wr.heap.size wr W') (by kernel_rfl) (Below.refl _ _).drew (fun hHeld => ?_)
            obtain ⟨Uf1u0, eW⟩ : ∃ X, X = wr.drew := ⟨_, rfl⟩
            have hb : Below wr.heap.size wr Uf1u0 := by rw [eW]; exact (Below.refl _ _).drew
            replace HS : Hid (EtS w a b CA CB ab bb N (some ⟨lg, 0, none⟩) D Uf1u0) := HS.out.below hb
            rw [← eW] at hHeld ⊢
            clear eW hb
            refine tkW 0 (some 38) (v := ?_) ?_ hHeld ?_
            rotate_left
            · (intro ww hSw; (try dsimp only at hSw); have hr9 : ww.heap[ab]? = some (.cells #[.int .i64 a.k.1, .int .i64 a.k.2, .string a.tg, .string a.tx, .slice aa a.at_.length ca, .slice ak a.ks.length da] 27) := ((hSw.block _ (row_lt HS0.out.r1)).trans HS0.out.r1).trans (by rw [HCA.out]); obtain ⟨y0, y1, y2, y3, y4, y5⟩ := row6d hr9; go_simp; try with_reducible rfl)
            refine tkW 1 (some 39) (v := ?_) ?_ hHeld ?_
            rotate_left
            · (intro ww _; go_simp; try with_reducible rfl)
            refine tkW 2 (some 40) (v := ?_) ?_ hHeld ?_
            rotate_left
            · (intro ww _; go_simp; try with_reducible rfl)
            refine tkW 3 (some 41) (v := ?_) ?_ hHeld ?_
            rotate_left
            · (intro ww hSw; (try dsimp only at hSw); go_simp; try with_reducible rfl)
            refine tkW 4 (some 42) (v := ?_) ?_ hHeld ?_
            rotate_left
            · (intro ww _; go_simp; try with_reducible rfl)
            refine tkW 5 (some 43) (v := ?_) ?_ hHeld ?_
            rotate_left
            · (intro ww hSw; (try dsimp only at hSw); have q1 := (hSw.cell (p := ⟨lg, i * 9 + 1, none⟩) Hlg.out.1).trans Hlg.out.2.2.1; have q2 := (hSw.cell (p := ⟨lg, i * 9 + 1 + 1, none⟩) Hlg.out.1).trans Hlg.out.2.2.2; go_simp; try with_reducible rfl)
            refine wpAnyH_ready (rs := [6, 10]) (by kernel_rfl) (by simp) ?_
            refine AllReadyH.cons (o := ⟨some 44, _, _, _, _, _⟩) rfl (fun K hK => ?_) (AllReadyH.cons (o := ⟨some 8, _, _, _, _, _⟩) rfl (fun K hK => ?_) AllReadyH.nil)
            · go_simp
              refine (refFindN_any w.heap.size a p.k _ _ HS.out.bel.size (by rw [← HCA.out]; exact HS.out.va) hsa).mono ?_
              rintro e Uf1u1 ⟨x, av, kv, rfl, hwx, fx, hb⟩
              obtain ⟨xa, xc, ex1⟩ := fx.at_.form
              obtain ⟨xk, xd, ex2⟩ := fx.ks.form
              subst ex1 ex2
              have Hwx : Hid (wasT a p.k = x) := hwx
              have Hfx : Hid (LsE atCells 2 (fun k => k < w.heap.size) Uf1u1 (.slice xa x.at_.length xc) x.at_) := fx.at_
              have HhT : Hid ((fndT a p.k).isSome = ha9) := Hha.out
              rw [HhT.out]
              have hkp := hHeld.trans (hb.mono hHeld.size)
              replace HS := hide9 (HS.out.below hb)
              clear hwx fx hb HhT
              (try go_wp2_with fail)
              refine hK.out _ _ (hkp) (fun hHeld2 => ?_)
              clear hK K hHeld
              have hHeld := hHeld2
              clear hHeld2
              (try simp only [Act.put, List.setIfInBounds_toArray, List.set_cons_zero, List.set_cons_succ])
              clear hkp
              refine tkW 7 (some 37) (v := ?_) ?_ hHeld ?_
              rotate_left
              · (intro ww _; go_simp; try with_reducible rfl)
              refine tkW 8 (some 45) (v := ?_) ?_ hHeld ?_
              rotate_left
              · (intro ww _; go_simp; try with_reducible rfl)
              refine tkW 9 (some 46) (v := ?_) ?_ hHeld ?_
              rotate_left
              · (intro ww _; go_simp; try with_reducible rfl)
              refine wpAnyH_ready (rs := [10]) (by kernel_rfl) (by simp) ?_
              refine AllReadyH.cons (o := ⟨some 8, _, _, _, _, _⟩) rfl (fun K hK => ?_) AllReadyH.nil
              have hbx : Below Uf1u1.heap.size Uf1u1 (Uf1u1.alloc (.cells #[.int .i64 0, .int .i64 0, .string ⟨#[]⟩, .string ⟨#[]⟩, .slice none 0 0, .slice none 0 0] 27)) := (Below.refl _ _).alloc (Nat.le_refl _) _
              have HNb : Hid (wr.heap.size ≤ Uf1u1.heap.size) := hHeld.size
              go_simp
              refine hK.out _ _ (hHeld.trans (hbx.mono hHeld.size)) (fun hHeld2 => ?_)
              clear hK K hHeld
              have hHeld := hHeld2
              clear hHeld2
              (try simp only [Act.put, List.setIfInBounds_toArray, List.set_cons_zero, List.set_cons_succ])
              obtain ⟨Uf1u2, eW⟩ : ∃ X, X = Uf1u1.alloc (.cells #[.int .i64 0, .int .i64 0, .string ⟨#[]⟩, .string ⟨#[]⟩, .slice none 0 0, .slice none 0 0] 27) := ⟨_, rfl⟩
              have hb : Below Uf1u1.heap.size Uf1u1 Uf1u2 := by rw [eW]; exact (Below.refl _ _).alloc (Nat.le_refl _) _
              have HZ : Hid (Uf1u2.heap[Uf1u1.heap.size]? = some (.cells #[.int .i64 0, .int .i64 0, .string ⟨#[]⟩, .string ⟨#[]⟩, .slice none 0 0, .slice none 0 0] 27)) := (by rw [eW]; exact heap_alloc_new _ _)
              rw [← eW] at hHeld ⊢
              clear eW
              clear hbx
              obtain ⟨nb, enb⟩ : ∃ b, b = Uf1u1.heap.size := ⟨_, rfl⟩
              replace Hfx := hide9 (Hfx.out.below hb)
              rw [← enb] at HZ HNb ⊢
              clear enb
              clear hb
              refine wpAnyH_ready (rs := [11]) (by kernel_rfl) (by simp) ?_
              refine AllReadyH.cons (o := ⟨none, _, _, _, _, _⟩) rfl (fun K hK => ?_) AllReadyH.nil
              refine step_store_row rfl 27 (.tmp 8) (.tmp 45) rfl nb 27 #[.int .i64 0, .int .i64 0, .string ⟨#[]⟩, .string ⟨#[]⟩, .slice none 0 0, .slice none 0 0] #[.int .i64 x.k.1, .int .i64 x.k.2, .string x.tg, .string x.tx, .slice xa x.at_.length xc, .slice xk x.ks.length xd] rfl rfl HZ.out sizeVy rfl (by simp [Value.oneCell']) ?_
              obtain ⟨Uf1u3, eW⟩ : ∃ Y, Y = Uf1u2.setRow nb #[.int .i64 x.k.1, .int .i64 x.k.2, .string x.tg, .string x.tx, .slice xa x.at_.length xc, .slice xk x.ks.length xd] := ⟨_, rfl⟩
              rw [← eW]
              have HX : Hid (Uf1u3.heap[nb]? = some (.cells #[.int .i64 x.k.1, .int .i64 x.k.2, .string x.tg, .string x.tx, .slice xa x.at_.length xc, .slice xk x.ks.length xd] 27)) := (by rw [eW]; exact setRow_same HZ.out)
              have hbz : Below wr.heap.size wr Uf1u3 := (by rw [eW]; exact hHeld.grown (grown_setRow _ _ _) hHeld.size (fun k e => by cases e; exact HNb.out))
              have hfx2 : Hid (LsE atCells 2 (fun k => k < w.heap.size) Uf1u3 (.slice xa x.at_.length xc) x.at_) := Hfx.out.turn (by rw [eW]; simp) fun k q _ => ⟨q, by rw [eW]; exact setRow_other Uf1u2 nb k _ (by have := HNb.out; have := HS0.out.bel.size; omega)⟩
              replace Hfx := hfx2
              replace HS : Hid (EtS w a b CA CB ab bb N (some ⟨lg, 0, none⟩) D Uf1u3) := HS0.out.below hbz
              clear eW hfx2
              refine hK.out _ _ (hbz) (fun hHeld2 => ?_)
              clear hK K hHeld
              have hHeld := hHeld2
              clear hHeld2
              (try simp only [Act.put, List.setIfInBounds_toArray, List.set_cons_zero, List.set_cons_succ])
              clear hbz HZ HNb
              refine tkW 12 (some 9) (v := ?_) ?_ hHeld ?_
              rotate_left
              · (intro ww _; go_simp; try with_reducible rfl)
              refine wpAnyH_done (by kernel_rfl) ?_ _
              clear hHeld HS0 Hlg
              go_wp2
              go_meet
              case rel => exact ⟨nb, x, xa, xc, xk, xd, rfl, rfl, Hwx, HX, Hfx, HS⟩
            · have hbx : Below Uf1u0.heap.size Uf1u0 (Uf1u0.alloc (.cells #[.int .i64 0, .int .i64 0, .string ⟨#[]⟩, .string ⟨#[]⟩, .slice none 0 0, .slice none 0 0] 27)) := (Below.refl _ _).alloc (Nat.le_refl _) _
              have HNb : Hid (wr.heap.size ≤ Uf1u0.heap.size) := hHeld.size
              go_simp
              refine hK.out _ _ (hHeld.trans (hbx.mono hHeld.size)) (fun hHeld2 => ?_)
              clear hK K hHeld
              have hHeld := hHeld2
              clear hHeld2
              (try simp only [Act.put, List.setIfInBounds_toArray, List.set_cons_zero, List.set_cons_succ])
              obtain ⟨Uf1u4, eW⟩ : ∃ X, X = Uf1u0.alloc (.cells #[.int .i64 0, .int .i64 0, .string ⟨#[]⟩, .string ⟨#[]⟩, .slice none 0 0, .slice none 0 0] 27) := ⟨_, rfl⟩
              have hb : Below Uf1u0.heap.size Uf1u0 Uf1u4 := by rw [eW]; exact (Below.refl _ _).alloc (Nat.le_refl _) _
              replace HS : Hid (EtS w a b CA CB ab bb N (some ⟨lg, 0, none⟩) D Uf1u4) := HS.out.below hb
              have HZ : Hid (Uf1u4.heap[Uf1u0.heap.size]? = some (.cells #[.int .i64 0, .int .i64 0, .string ⟨#[]⟩, .string ⟨#[]⟩, .slice none 0 0, .slice none 0 0] 27)) := (by rw [eW]; exact heap_alloc_new _ _)
              rw [← eW] at hHeld ⊢
              clear eW
              clear hbx
              obtain ⟨nb, enb⟩ : ∃ b, b = Uf1u0.heap.size := ⟨_, rfl⟩
              rw [← enb] at HZ HNb ⊢
              clear enb
              clear hb
              refine wpAnyH_ready (rs := [6]) (by kernel_rfl) (by simp) ?_
              refine AllReadyH.cons (o := ⟨some 44, _, _, _, _, _⟩) rfl (fun K hK => ?_) AllReadyH.nil
              go_simp
              refine (refFindN_any w.heap.size a p.k _ _ HS.out.bel.size (by rw [← HCA.out]; exact HS.out.va) hsa).mono ?_
              rintro e Uf1u5 ⟨x, av, kv, rfl, hwx, fx, hb⟩
              obtain ⟨xa, xc, ex1⟩ := fx.at_.form
              obtain ⟨xk, xd, ex2⟩ := fx.ks.form
              subst ex1 ex2
              have Hwx : Hid (wasT a p.k = x) := hwx
              have Hfx : Hid (LsE atCells 2 (fun k => k < w.heap.size) Uf1u5 (.slice xa x.at_.length xc) x.at_) := fx.at_
              have HhT : Hid ((fndT a p.k).isSome = ha9) := Hha.out
              rw [HhT.out]
              replace HZ := hide9 ((hb.block _ (row_lt HZ.out)).trans HZ.out)
              have hkp := hHeld.trans (hb.mono hHeld.size)
              replace HS := hide9 (HS.out.below hb)
              clear hwx fx hb HhT
              (try go_wp2_with fail)
              refine hK.out _ _ (hkp) (fun hHeld2 => ?_)
              clear hK K hHeld
              have hHeld := hHeld2
              clear hHeld2
              (try simp only [Act.put, List.setIfInBounds_toArray, List.set_cons_zero, List.set_cons_succ])
              clear hkp
              refine tkW 7 (some 37) (v := ?_) ?_ hHeld ?_
              rotate_left
              · (intro ww _; go_simp; try with_reducible rfl)
              refine tkW 8 (some 45) (v := ?_) ?_ hHeld ?_
              rotate_left
              · (intro ww _; go_simp; try with_reducible rfl)
              refine tkW 9 (some 46) (v := ?_) ?_ hHeld ?_
              rotate_left
              · (intro ww _; go_simp; try with_reducible rfl)
              refine wpAnyH_ready (rs := [11]) (by kernel_rfl) (by simp) ?_
              refine AllReadyH.cons (o := ⟨none, _, _, _, _, _⟩) rfl (fun K hK => ?_) AllReadyH.nil
              refine step_store_row rfl 27 (.tmp 8) (.tmp 45) rfl nb 27 #[.int .i64 0, .int .i64 0, .string ⟨#[]⟩, .string ⟨#[]⟩, .slice none 0 0, .slice none 0 0] #[.int .i64 x.k.1, .int .i64 x.k.2, .string x.tg, .string x.tx, .slice xa x.at_.length xc, .slice xk x.ks.length xd] rfl rfl HZ.out sizeVy rfl (by simp [Value.oneCell']) ?_
              obtain ⟨Uf1u6, eW⟩ : ∃ Y, Y = Uf1u5.setRow nb #[.int .i64 x.k.1, .int .i64 x.k.2, .string x.tg, .string x.tx, .slice xa x.at_.length xc, .slice xk x.ks.length xd] := ⟨_, rfl⟩
              rw [← eW]
              have HX : Hid (Uf1u6.heap[nb]? = some (.cells #[.int .i64 x.k.1, .int .i64 x.k.2, .string x.tg, .string x.tx, .slice xa x.at_.length xc, .slice xk x.ks.length xd] 27)) := (by rw [eW]; exact setRow_same HZ.out)
              have hbz : Below wr.heap.size wr Uf1u6 := (by rw [eW]; exact hHeld.grown (grown_setRow _ _ _) hHeld.size (fun k e => by cases e; exact HNb.out))
              have hfx2 : Hid (LsE atCells 2 (fun k => k < w.heap.size) Uf1u6 (.slice xa x.at_.length xc) x.at_) := Hfx.out.turn (by rw [eW]; simp) fun k q _ => ⟨q, by rw [eW]; exact setRow_other Uf1u5 nb k _ (by have := HNb.out; have := HS0.out.bel.size; omega)⟩
              replace Hfx := hfx2
              replace HS : Hid (EtS w a b CA CB ab bb N (some ⟨lg, 0, none⟩) D Uf1u6) := HS0.out.below hbz
              clear eW hfx2
              refine hK.out _ _ (hbz) (fun hHeld2 => ?_)
              clear hK K hHeld
              have hHeld := hHeld2
              clear hHeld2
              (try simp only [Act.put, List.setIfInBounds_toArray, List.set_cons_zero, List.set_cons_succ])
              clear hbz HZ HNb
              refine tkW 12 (some 9) (v := ?_) ?_ hHeld ?_
              rotate_left
              · (intro ww _; go_simp; try with_reducible rfl)
              refine wpAnyH_done (by kernel_rfl) ?_ _
              clear hHeld HS0 Hlg
              go_wp2
              go_meet
              case rel => exact ⟨nb, x, xa, xc, xk, xd, rfl, rfl, Hwx, HX, Hfx, HS⟩
          case rest =>
            obtain ⟨xb, x, xa, xc, xk, xd, rfl, rfl, Hwx, HX, Hfx, HS⟩ := hcut
            clear Hlg
            have Hlg : Hid (lg < wc.heap.size ∧ wc.cell? ⟨lg, i * 9, none⟩ = some (.int .i64 p.kd) ∧ wc.cell? ⟨lg, i * 9 + 1, none⟩ = some (.int .i64 p.k.1) ∧ wc.cell? ⟨lg, i * 9 + 1 + 1, none⟩ = some (.int .i64 p.k.2)) := (by obtain ⟨_, hx0, h2, h3⟩ := HS.out.ol.resolve_left (fun e => by rw [e] at hlt; simp at hlt); injection hx0 with hx0; injection hx0 with hx0 _ _; subst hx0; exact ⟨h2, by rw [Hp9.out]; exact h3 i hlt 0 _ rfl, by rw [Hp9.out]; exact h3 i hlt 1 _ rfl, by rw [Hp9.out]; exact h3 i hlt 2 _ rfl⟩)
            go_upto_region 10 with fail
            obtain ⟨wd, ewd⟩ : ∃ X, X = wc := ⟨_, rfl⟩
            rw [← ewd] at HS HX Hfx Hlg ⊢
            clear ewd
            have HXx := HX
            have Hfxx := Hfx
            have Hwxx := Hwx
            clear HX Hfx Hwx
            go_cut [10, 11] from 31 to 136 (fun v8 v9 W => ∃ (nb : Nat) (y : VT) (ya : Option Addr) (yc : Nat) (yk : Option Addr) (yd : Nat), v8 = .pointer (some ⟨nb, 0, none⟩) ∧ v9 = .bool hb9 ∧ Hid (wasT b p.k = y) ∧ Hid (W.heap[nb]? = some (.cells #[.int .i64 y.k.1, .int .i64 y.k.2, .string y.tg, .string y.tx, .slice ya y.at_.length yc, .slice yk y.ks.length yd] 27)) ∧ Hid (LsE atCells 2 (fun k => k < w.heap.size) W (.slice ya y.at_.length yc) y.at_) ∧ Hid (EtS w a b CA CB ab bb N (some ⟨lg, 0, none⟩) D W) ∧ Hid (W.heap[xb]? = some (.cells #[.int .i64 x.k.1, .int .i64 x.k.2, .string x.tg, .string x.tx, .slice xa x.at_.length xc, .slice xk x.ks.length xd] 27)) ∧ Hid (LsE atCells 2 (fun k => k < w.heap.size) W (.slice xa x.at_.length xc) x.at_))
            case first =>
              have HS0 : Hid (EtS w a b CA CB ab bb N (some ⟨lg, 0, none⟩) D wd) := HS
              refine wp_region_held_drew (S := fun W' => Below wd.heap.size wd W') (by kernel_rfl) (Below.refl _ _).drew (fun hHeld => ?_)
              obtain ⟨Ug2u0, eW⟩ : ∃ X, X = wd.drew := ⟨_, rfl⟩
              have hb : Below wd.heap.size wd Ug2u0 := by rw [eW]; exact (Below.refl _ _).drew
              replace HS : Hid (EtS w a b CA CB ab bb N (some ⟨lg, 0, none⟩) D Ug2u0) := HS.out.below hb
              rw [← eW] at hHeld ⊢
              clear eW hb
              refine tkW 0 (some 48) (v := ?_) ?_ hHeld ?_
              rotate_left
              · (intro ww hSw; (try dsimp only at hSw); have hr9 : ww.heap[bb]? = some (.cells #[.int .i64 b.k.1, .int .i64 b.k.2, .string b.tg, .string b.tx, .slice ba b.at_.length cb, .slice bk b.ks.length db] 27) := ((hSw.block _ (row_lt HS0.out.r2)).trans HS0.out.r2).trans (by rw [HCB.out]); obtain ⟨y0, y1, y2, y3, y4, y5⟩ := row6d hr9; go_simp; try with_reducible rfl)
              refine tkW 1 (some 49) (v := ?_) ?_ hHeld ?_
              rotate_left
              · (intro ww _; go_simp; try with_reducible rfl)
              refine tkW 2 (some 50) (v := ?_) ?_ hHeld ?_
              rotate_left
              · (intro ww _; go_simp; try with_reducible rfl)
              refine tkW 3 (some 51) (v := ?_) ?_ hHeld ?_
              rotate_left
              · (intro ww hSw; (try dsimp only at hSw); go_simp; try with_reducible rfl)
              refine tkW 4 (some 52) (v := ?_) ?_ hHeld ?_
              rotate_left
              · (intro ww _; go_simp; try with_reducible rfl)
              refine tkW 5 (some 53) (v := ?_) ?_ hHeld ?_
              rotate_left
              · (intro ww hSw; (try dsimp only at hSw); have q1 := (hSw.cell (p := ⟨lg, i * 9 + 1, none⟩) Hlg.out.1).trans Hlg.out.2.2.1; have q2 := (hSw.cell (p := ⟨lg, i * 9 + 1 + 1, none⟩) Hlg.out.1).trans Hlg.out.2.2.2; go_simp; try with_reducible rfl)
              refine wpAnyH_ready (rs := [6, 10]) (by kernel_rfl) (by simp) ?_
              refine AllReadyH.cons (o := ⟨some 54, _, _, _, _, _⟩) rfl (fun K hK => ?_) (AllReadyH.cons (o := ⟨some 10, _, _, _, _, _⟩) rfl (fun K hK => ?_) AllReadyH.nil)
              · go_simp
                refine (refFindN_any w.heap.size b p.k _ _ HS.out.bel.size (by rw [← HCB.out]; exact HS.out.vb) hsb).mono ?_
                rintro e Ug2u1 ⟨y, av, kv, rfl, hwx, fx, hb⟩
                obtain ⟨ya, yc, ex1⟩ := fx.at_.form
                obtain ⟨yk, yd, ex2⟩ := fx.ks.form
                subst ex1 ex2
                have Hwx : Hid (wasT b p.k = y) := hwx
                have Hfx : Hid (LsE atCells 2 (fun k => k < w.heap.size) Ug2u1 (.slice ya y.at_.length yc) y.at_) := fx.at_
                have HhT : Hid ((fndT b p.k).isSome = hb9) := Hhb.out
                rw [HhT.out]
                have hkp := hHeld.trans (hb.mono hHeld.size)
                replace HS := hide9 (HS.out.below hb)
                clear hwx fx hb HhT
                (try go_wp2_with fail)
                refine hK.out _ _ (hkp) (fun hHeld2 => ?_)
                clear hK K hHeld
                have hHeld := hHeld2
                clear hHeld2
                (try simp only [Act.put, List.setIfInBounds_toArray, List.set_cons_zero, List.set_cons_succ])
                clear hkp
                refine tkW 7 (some 47) (v := ?_) ?_ hHeld ?_
                rotate_left
                · (intro ww _; go_simp; try with_reducible rfl)
                refine tkW 8 (some 55) (v := ?_) ?_ hHeld ?_
                rotate_left
                · (intro ww _; go_simp; try with_reducible rfl)
                refine tkW 9 (some 56) (v := ?_) ?_ hHeld ?_
                rotate_left
                · (intro ww _; go_simp; try with_reducible rfl)
                refine wpAnyH_ready (rs := [10]) (by kernel_rfl) (by simp) ?_
                refine AllReadyH.cons (o := ⟨some 10, _, _, _, _, _⟩) rfl (fun K hK => ?_) AllReadyH.nil
                have hbx : Below Ug2u1.heap.size Ug2u1 (Ug2u1.alloc (.cells #[.int .i64 0, .int .i64 0, .string ⟨#[]⟩, .string ⟨#[]⟩, .slice none 0 0, .slice none 0 0] 27)) := (Below.refl _ _).alloc (Nat.le_refl _) _
                have HNb : Hid (wd.heap.size ≤ Ug2u1.heap.size) := hHeld.size
                go_simp
                refine hK.out _ _ (hHeld.trans (hbx.mono hHeld.size)) (fun hHeld2 => ?_)
                clear hK K hHeld
                have hHeld := hHeld2
                clear hHeld2
                (try simp only [Act.put, List.setIfInBounds_toArray, List.set_cons_zero, List.set_cons_succ])
                obtain ⟨Ug2u2, eW⟩ : ∃ X, X = Ug2u1.alloc (.cells #[.int .i64 0, .int .i64 0, .string ⟨#[]⟩, .string ⟨#[]⟩, .slice none 0 0, .slice none 0 0] 27) := ⟨_, rfl⟩
                have hb : Below Ug2u1.heap.size Ug2u1 Ug2u2 := by rw [eW]; exact (Below.refl _ _).alloc (Nat.le_refl _) _
                have HZ : Hid (Ug2u2.heap[Ug2u1.heap.size]? = some (.cells #[.int .i64 0, .int .i64 0, .string ⟨#[]⟩, .string ⟨#[]⟩, .slice none 0 0, .slice none 0 0] 27)) := (by rw [eW]; exact heap_alloc_new _ _)
                rw [← eW] at hHeld ⊢
                clear eW
                clear hbx
                obtain ⟨nb, enb⟩ : ∃ b, b = Ug2u1.heap.size := ⟨_, rfl⟩
                replace Hfx := hide9 (Hfx.out.below hb)
                rw [← enb] at HZ HNb ⊢
                clear enb
                clear hb
                refine wpAnyH_ready (rs := [11]) (by kernel_rfl) (by simp) ?_
                refine AllReadyH.cons (o := ⟨none, _, _, _, _, _⟩) rfl (fun K hK => ?_) AllReadyH.nil
                refine step_store_row rfl 27 (.tmp 10) (.tmp 55) rfl nb 27 #[.int .i64 0, .int .i64 0, .string ⟨#[]⟩, .string ⟨#[]⟩, .slice none 0 0, .slice none 0 0] #[.int .i64 y.k.1, .int .i64 y.k.2, .string y.tg, .string y.tx, .slice ya y.at_.length yc, .slice yk y.ks.length yd] rfl rfl HZ.out sizeVy rfl (by simp [Value.oneCell']) ?_
                obtain ⟨Ug2u3, eW⟩ : ∃ Y, Y = Ug2u2.setRow nb #[.int .i64 y.k.1, .int .i64 y.k.2, .string y.tg, .string y.tx, .slice ya y.at_.length yc, .slice yk y.ks.length yd] := ⟨_, rfl⟩
                rw [← eW]
                have HX : Hid (Ug2u3.heap[nb]? = some (.cells #[.int .i64 y.k.1, .int .i64 y.k.2, .string y.tg, .string y.tx, .slice ya y.at_.length yc, .slice yk y.ks.length yd] 27)) := (by rw [eW]; exact setRow_same HZ.out)
                have hbz : Below wd.heap.size wd Ug2u3 := (by rw [eW]; exact hHeld.grown (grown_setRow _ _ _) hHeld.size (fun k e => by cases e; exact HNb.out))
                have hfx2 : Hid (LsE atCells 2 (fun k => k < w.heap.size) Ug2u3 (.slice ya y.at_.length yc) y.at_) := Hfx.out.turn (by rw [eW]; simp) fun k q _ => ⟨q, by rw [eW]; exact setRow_other Ug2u2 nb k _ (by have := HNb.out; have := HS0.out.bel.size; omega)⟩
                replace Hfx := hfx2
                replace HS : Hid (EtS w a b CA CB ab bb N (some ⟨lg, 0, none⟩) D Ug2u3) := HS0.out.below hbz
                clear eW hfx2
                refine hK.out _ _ (hbz) (fun hHeld2 => ?_)
                clear hK K hHeld
                have hHeld := hHeld2
                clear hHeld2
                (try simp only [Act.put, List.setIfInBounds_toArray, List.set_cons_zero, List.set_cons_succ])
                clear hbz HZ HNb
                refine tkW 12 (some 11) (v := ?_) ?_ hHeld ?_
                rotate_left
                · (intro ww _; go_simp; try with_reducible rfl)
                refine wpAnyH_done (by kernel_rfl) ?_ _
                have hb9 : Below wd.heap.size wd Ug2u3 := hHeld
                have HXz : Hid (Ug2u3.heap[xb]? = some (.cells #[.int .i64 x.k.1, .int .i64 x.k.2, .string x.tg, .string x.tx, .slice xa x.at_.length xc, .slice xk x.ks.length xd] 27)) := (hb9.block _ (row_lt HXx.out)).trans HXx.out
                have Hfxz := hide9 (Hfxx.out.below hb9)
                clear hHeld HS0 Hlg HXx Hfxx hb9
                go_wp2
                go_meet
                case rel => exact ⟨nb, y, ya, yc, yk, yd, rfl, rfl, Hwx, HX, Hfx, HS, HXz, Hfxz⟩
              · have hbx : Below Ug2u0.heap.size Ug2u0 (Ug2u0.alloc (.cells #[.int .i64 0, .int .i64 0, .string ⟨#[]⟩, .string ⟨#[]⟩, .slice none 0 0, .slice none 0 0] 27)) := (Below.refl _ _).alloc (Nat.le_refl _) _
                have HNb : Hid (wd.heap.size ≤ Ug2u0.heap.size) := hHeld.size
                go_simp
                refine hK.out _ _ (hHeld.trans (hbx.mono hHeld.size)) (fun hHeld2 => ?_)
                clear hK K hHeld
                have hHeld := hHeld2
                clear hHeld2
                (try simp only [Act.put, List.setIfInBounds_toArray, List.set_cons_zero, List.set_cons_succ])
                obtain ⟨Ug2u4, eW⟩ : ∃ X, X = Ug2u0.alloc (.cells #[.int .i64 0, .int .i64 0, .string ⟨#[]⟩, .string ⟨#[]⟩, .slice none 0 0, .slice none 0 0] 27) := ⟨_, rfl⟩
                have hb : Below Ug2u0.heap.size Ug2u0 Ug2u4 := by rw [eW]; exact (Below.refl _ _).alloc (Nat.le_refl _) _
                replace HS : Hid (EtS w a b CA CB ab bb N (some ⟨lg, 0, none⟩) D Ug2u4) := HS.out.below hb
                have HZ : Hid (Ug2u4.heap[Ug2u0.heap.size]? = some (.cells #[.int .i64 0, .int .i64 0, .string ⟨#[]⟩, .string ⟨#[]⟩, .slice none 0 0, .slice none 0 0] 27)) := (by rw [eW]; exact heap_alloc_new _ _)
                rw [← eW] at hHeld ⊢
                clear eW
                clear hbx
                obtain ⟨nb, enb⟩ : ∃ b, b = Ug2u0.heap.size := ⟨_, rfl⟩
                rw [← enb] at HZ HNb ⊢
                clear enb
                clear hb
                refine wpAnyH_ready (rs := [6]) (by kernel_rfl) (by simp) ?_
                refine AllReadyH.cons (o := ⟨some 54, _, _, _, _, _⟩) rfl (fun K hK => ?_) AllReadyH.nil
                go_simp
                refine (refFindN_any w.heap.size b p.k _ _ HS.out.bel.size (by rw [← HCB.out]; exact HS.out.vb) hsb).mono ?_
                rintro e Ug2u5 ⟨y, av, kv, rfl, hwx, fx, hb⟩
                obtain ⟨ya, yc, ex1⟩ := fx.at_.form
                obtain ⟨yk, yd, ex2⟩ := fx.ks.form
                subst ex1 ex2
                have Hwx : Hid (wasT b p.k = y) := hwx
                have Hfx : Hid (LsE atCells 2 (fun k => k < w.heap.size) Ug2u5 (.slice ya y.at_.length yc) y.at_) := fx.at_
                have HhT : Hid ((fndT b p.k).isSome = hb9) := Hhb.out
                rw [HhT.out]
                replace HZ := hide9 ((hb.block _ (row_lt HZ.out)).trans HZ.out)
                have hkp := hHeld.trans (hb.mono hHeld.size)
                replace HS := hide9 (HS.out.below hb)
                clear hwx fx hb HhT
                (try go_wp2_with fail)
                refine hK.out _ _ (hkp) (fun hHeld2 => ?_)
                clear hK K hHeld
                have hHeld := hHeld2
                clear hHeld2
                (try simp only [Act.put, List.setIfInBounds_toArray, List.set_cons_zero, List.set_cons_succ])
                clear hkp
                refine tkW 7 (some 47) (v := ?_) ?_ hHeld ?_
                rotate_left
                · (intro ww _; go_simp; try with_reducible rfl)
                refine tkW 8 (some 55) (v := ?_) ?_ hHeld ?_
                rotate_left
                · (intro ww _; go_simp; try with_reducible rfl)
                refine tkW 9 (some 56) (v := ?_) ?_ hHeld ?_
                rotate_left
                · (intro ww _; go_simp; try with_reducible rfl)
                refine wpAnyH_ready (rs := [11]) (by kernel_rfl) (by simp) ?_
                refine AllReadyH.cons (o := ⟨none, _, _, _, _, _⟩) rfl (fun K hK => ?_) AllReadyH.nil
                refine step_store_row rfl 27 (.tmp 10) (.tmp 55) rfl nb 27 #[.int .i64 0, .int .i64 0, .string ⟨#[]⟩, .string ⟨#[]⟩, .slice none 0 0, .slice none 0 0] #[.int .i64 y.k.1, .int .i64 y.k.2, .string y.tg, .string y.tx, .slice ya y.at_.length yc, .slice yk y.ks.length yd] rfl rfl HZ.out sizeVy rfl (by simp [Value.oneCell']) ?_
                obtain ⟨Ug2u6, eW⟩ : ∃ Y, Y = Ug2u5.setRow nb #[.int .i64 y.k.1, .int .i64 y.k.2, .string y.tg, .string y.tx, .slice ya y.at_.length yc, .slice yk y.ks.length yd] := ⟨_, rfl⟩
                rw [← eW]
                have HX : Hid (Ug2u6.heap[nb]? = some (.cells #[.int .i64 y.k.1, .int .i64 y.k.2, .string y.tg, .string y.tx, .slice ya y.at_.length yc, .slice yk y.ks.length yd] 27)) := (by rw [eW]; exact setRow_same HZ.out)
                have hbz : Below wd.heap.size wd Ug2u6 := (by rw [eW]; exact hHeld.grown (grown_setRow _ _ _) hHeld.size (fun k e => by cases e; exact HNb.out))
                have hfx2 : Hid (LsE atCells 2 (fun k => k < w.heap.size) Ug2u6 (.slice ya y.at_.length yc) y.at_) := Hfx.out.turn (by rw [eW]; simp) fun k q _ => ⟨q, by rw [eW]; exact setRow_other Ug2u5 nb k _ (by have := HNb.out; have := HS0.out.bel.size; omega)⟩
                replace Hfx := hfx2
                replace HS : Hid (EtS w a b CA CB ab bb N (some ⟨lg, 0, none⟩) D Ug2u6) := HS0.out.below hbz
                clear eW hfx2
                refine hK.out _ _ (hbz) (fun hHeld2 => ?_)
                clear hK K hHeld
                have hHeld := hHeld2
                clear hHeld2
                (try simp only [Act.put, List.setIfInBounds_toArray, List.set_cons_zero, List.set_cons_succ])
                clear hbz HZ HNb
                refine tkW 12 (some 11) (v := ?_) ?_ hHeld ?_
                rotate_left
                · (intro ww _; go_simp; try with_reducible rfl)
                refine wpAnyH_done (by kernel_rfl) ?_ _
                have hb9 : Below wd.heap.size wd Ug2u6 := hHeld
                have HXz : Hid (Ug2u6.heap[xb]? = some (.cells #[.int .i64 x.k.1, .int .i64 x.k.2, .string x.tg, .string x.tx, .slice xa x.at_.length xc, .slice xk x.ks.length xd] 27)) := (hb9.block _ (row_lt HXx.out)).trans HXx.out
                have Hfxz := hide9 (Hfxx.out.below hb9)
                clear hHeld HS0 Hlg HXx Hfxx hb9
                go_wp2
                go_meet
                case rel => exact ⟨nb, y, ya, yc, yk, yd, rfl, rfl, Hwx, HX, Hfx, HS, HXz, Hfxz⟩
            case rest =>
              obtain ⟨yb, y, ya, yc, yk, yd, rfl, rfl, Hwy, HY, Hfy, HS, HX, Hfx⟩ := hcut
              have Hwx := Hwxx
              clear Hlg HXx Hfxx Hwxx
              have Hlg : Hid (lg < wc.heap.size ∧ wc.cell? ⟨lg, i * 9, none⟩ = some (.int .i64 p.kd) ∧ wc.cell? ⟨lg, i * 9 + 1, none⟩ = some (.int .i64 p.k.1) ∧ wc.cell? ⟨lg, i * 9 + 1 + 1, none⟩ = some (.int .i64 p.k.2)) := (by obtain ⟨_, hx0, h2, h3⟩ := HS.out.ol.resolve_left (fun e => by rw [e] at hlt; simp at hlt); injection hx0 with hx0; injection hx0 with hx0 _ _; subst hx0; exact ⟨h2, by rw [Hp9.out]; exact h3 i hlt 0 _ rfl, by rw [Hp9.out]; exact h3 i hlt 1 _ rfl, by rw [Hp9.out]; exact h3 i hlt 2 _ rfl⟩)
              obtain ⟨we, ewe⟩ : ∃ X, X = wc := ⟨_, rfl⟩
              rw [← ewe] at HS HX Hfx HY Hfy Hlg ⊢
              clear ewe
              go_upto_region 11 with fail
              cases ha9 with
              | false =>
                have HS0 : Hid (EtS w a b CA CB ab bb N (some ⟨lg, 0, none⟩) D we) := HS
                refine wp_region_held_drew (S := fun W' => Below we.heap.size we W') (by kernel_rfl) (Below.refl _ _).drew (fun hHeld => ?_)
                obtain ⟨Uh03u0, eW⟩ : ∃ X, X = we.drew := ⟨_, rfl⟩
                have hb : Below we.heap.size we Uh03u0 := by rw [eW]; exact (Below.refl _ _).drew
                replace HS : Hid (EtS w a b CA CB ab bb N (some ⟨lg, 0, none⟩) D Uh03u0) := HS.out.below hb
                rw [← eW] at hHeld ⊢
                clear eW hb
                refine tkW 0 (some 57) (v := ?_) ?_ hHeld ?_
                rotate_left
                · (intro ww _; go_simp; try with_reducible rfl)
                refine tkW 1 (some 58) (v := ?_) ?_ hHeld ?_
                rotate_left
                · (intro ww _; go_simp; try with_reducible rfl)
                refine tkW 2 (some 59) (v := ?_) ?_ hHeld ?_
                rotate_left
                · (intro ww _; go_simp; try with_reducible rfl)
                refine tkU 3 (some 60) hHeld ?_
                refine tkU 4 (some 61) hHeld ?_
                refine tkW 5 (some 62) (v := ?_) ?_ hHeld ?_
                rotate_left
                · (intro ww _; go_simp; try with_reducible rfl)
                refine tkW 6 (some 63) (v := ?_) ?_ hHeld ?_
                rotate_left
                · (intro ww _; go_simp; try with_reducible rfl)
                refine tkU 7 (some 64) hHeld ?_
                refine tkU 8 (some 65) hHeld ?_
                refine tkU 9 (some 66) hHeld ?_
                refine tkU 10 (some 67) hHeld ?_
                refine tkU 11 (some 68) hHeld ?_
                refine tkU 12 (some 69) hHeld ?_
                refine tkU 13 (some 70) hHeld ?_
                refine tkU 14 (some 71) hHeld ?_
                refine tkU 15 (some 72) hHeld ?_
                refine tkW 16 (some 73) (v := ?_) ?_ hHeld ?_
                rotate_left
                · (intro ww _; go_simp; try with_reducible rfl)
                refine wpAnyH_done (by kernel_rfl) ?_ _
                clear hHeld HS0 Hlg HX Hfx HY Hfy
                go_wp2
                go_roundw
                case rel => exact ⟨i + 1, by go_num, by omega, HS⟩
                case measure => simp [intOf]; omega
              | true =>
                cases hb9 with
                | false =>
                  have HS0 : Hid (EtS w a b CA CB ab bb N (some ⟨lg, 0, none⟩) D we) := HS
                  refine wp_region_held_drew (S := fun W' => Below we.heap.size we W') (by kernel_rfl) (Below.refl _ _).drew (fun hHeld => ?_)
                  obtain ⟨Uh14u0, eW⟩ : ∃ X, X = we.drew := ⟨_, rfl⟩
                  have hb : Below we.heap.size we Uh14u0 := by rw [eW]; exact (Below.refl _ _).drew
                  replace HS : Hid (EtS w a b CA CB ab bb N (some ⟨lg, 0, none⟩) D Uh14u0) := HS.out.below hb
                  rw [← eW] at hHeld ⊢
                  clear eW hb
                  refine tkW 0 (some 57) (v := ?_) ?_ hHeld ?_
                  rotate_left
                  · (intro ww _; go_simp; try with_reducible rfl)
                  refine tkW 1 (some 58) (v := ?_) ?_ hHeld ?_
                  rotate_left
                  · (intro ww _; go_simp; try with_reducible rfl)
                  refine tkW 2 (some 59) (v := ?_) ?_ hHeld ?_
                  rotate_left
                  · (intro ww _; go_simp; try with_reducible rfl)
                  refine tkW 3 (some 60) (v := ?_) ?_ hHeld ?_
                  rotate_left
                  · (intro ww _; go_simp; try with_reducible rfl)
                  refine tkW 4 (some 61) (v := ?_) ?_ hHeld ?_
                  rotate_left
                  · (intro ww _; go_simp; try with_reducible rfl)
                  refine tkW 5 (some 62) (v := ?_) ?_ hHeld ?_
                  rotate_left
                  · (intro ww _; go_simp; try with_reducible rfl)
                  refine tkW 6 (some 63) (v := ?_) ?_ hHeld ?_
                  rotate_left
                  · (intro ww _; go_simp; try with_reducible rfl)
                  refine tkU 7 (some 64) hHeld ?_
                  refine tkU 8 (some 65) hHeld ?_
                  refine tkU 9 (some 66) hHeld ?_
                  refine tkU 10 (some 67) hHeld ?_
                  refine tkU 11 (some 68) hHeld ?_
                  refine tkU 12 (some 69) hHeld ?_
                  refine tkU 13 (some 70) hHeld ?_
                  refine tkU 14 (some 71) hHeld ?_
                  refine tkU 15 (some 72) hHeld ?_
                  refine tkW 16 (some 73) (v := ?_) ?_ hHeld ?_
                  rotate_left
                  · (intro ww _; go_simp; try with_reducible rfl)
                  refine wpAnyH_done (by kernel_rfl) ?_ _
                  clear hHeld HS0 Hlg HX Hfx HY Hfy
                  go_wp2
                  go_roundw
                  case rel => exact ⟨i + 1, by go_num, by omega, HS⟩
                  case measure => simp [intOf]; omega
                | true =>
                  obtain ⟨ab9, eab⟩ : ∃ v : Bool, aboT a b p.k = v := ⟨_, rfl⟩
                  have Hab := hide9 eab
                  clear eab
                  cases ab9 with
                  | false =>
                    have HS0 : Hid (EtS w a b CA CB ab bb N (some ⟨lg, 0, none⟩) D we) := HS
                    refine wp_region_held_drew (S := fun W' => Below we.heap.size we W') (by kernel_rfl) (Below.refl _ _).drew (fun hHeld => ?_)
                    obtain ⟨Uh25u0, eW⟩ : ∃ X, X = we.drew := ⟨_, rfl⟩
                    have hb : Below we.heap.size we Uh25u0 := by rw [eW]; exact (Below.refl _ _).drew
                    replace HS : Hid (EtS w a b CA CB ab bb N (some ⟨lg, 0, none⟩) D Uh25u0) := HS.out.below hb
                    rw [← eW] at hHeld ⊢
                    clear eW hb
                    refine tkW 0 (some 57) (v := ?_) ?_ hHeld ?_
                    rotate_left
                    · (intro ww _; go_simp; try with_reducible rfl)
                    refine tkW 1 (some 58) (v := ?_) ?_ hHeld ?_
                    rotate_left
                    · (intro ww _; go_simp; try with_reducible rfl)
                    refine tkW 2 (some 59) (v := ?_) ?_ hHeld ?_
                    rotate_left
                    · (intro ww _; go_simp; try with_reducible rfl)
                    refine tkW 3 (some 60) (v := ?_) ?_ hHeld ?_
                    rotate_left
                    · (intro ww _; go_simp; try with_reducible rfl)
                    refine tkW 4 (some 61) (v := ?_) ?_ hHeld ?_
                    rotate_left
                    · (intro ww _; go_simp; try with_reducible rfl)
                    refine tkW 5 (some 62) (v := ?_) ?_ hHeld ?_
                    rotate_left
                    · (intro ww _; go_simp; try with_reducible rfl)
                    refine tkW 6 (some 63) (v := ?_) ?_ hHeld ?_
                    rotate_left
                    · (intro ww _; go_simp; try with_reducible rfl)
                    refine tkW 7 (some 64) (v := ?_) ?_ hHeld ?_
                    rotate_left
                    · (intro ww hSw; (try dsimp only at hSw); have hr9 : ww.heap[ab]? = some (.cells #[.int .i64 a.k.1, .int .i64 a.k.2, .string a.tg, .string a.tx, .slice aa a.at_.length ca, .slice ak a.ks.length da] 27) := ((hSw.block _ (row_lt HS0.out.r1)).trans HS0.out.r1).trans (by rw [HCA.out]); obtain ⟨y0, y1, y2, y3, y4, y5⟩ := row6d hr9; go_simp; try with_reducible rfl)
                    refine tkW 8 (some 65) (v := ?_) ?_ hHeld ?_
                    rotate_left
                    · (intro ww hSw; (try dsimp only at hSw); have hr9 : ww.heap[bb]? = some (.cells #[.int .i64 b.k.1, .int .i64 b.k.2, .string b.tg, .string b.tx, .slice ba b.at_.length cb, .slice bk b.ks.length db] 27) := ((hSw.block _ (row_lt HS0.out.r2)).trans HS0.out.r2).trans (by rw [HCB.out]); obtain ⟨y0, y1, y2, y3, y4, y5⟩ := row6d hr9; go_simp; try with_reducible rfl)
                    refine tkW 9 (some 66) (v := ?_) ?_ hHeld ?_
                    rotate_left
                    · (intro ww _; go_simp; try with_reducible rfl)
                    refine tkW 10 (some 67) (v := ?_) ?_ hHeld ?_
                    rotate_left
                    · (intro ww _; go_simp; try with_reducible rfl)
                    refine tkW 11 (some 68) (v := ?_) ?_ hHeld ?_
                    rotate_left
                    · (intro ww hSw; (try dsimp only at hSw); go_simp; try with_reducible rfl)
                    refine tkW 12 (some 69) (v := ?_) ?_ hHeld ?_
                    rotate_left
                    · (intro ww _; go_simp; try with_reducible rfl)
                    refine tkW 13 (some 70) (v := ?_) ?_ hHeld ?_
                    rotate_left
                    · (intro ww hSw; (try dsimp only at hSw); have q1 := (hSw.cell (p := ⟨lg, i * 9 + 1, none⟩) Hlg.out.1).trans Hlg.out.2.2.1; have q2 := (hSw.cell (p := ⟨lg, i * 9 + 1 + 1, none⟩) Hlg.out.1).trans Hlg.out.2.2.2; go_simp; try with_reducible rfl)
                    refine wpAnyH_ready (rs := [14]) (by kernel_rfl) (by simp) ?_
                    refine AllReadyH.cons (o := ⟨some 71, _, _, _, _, _⟩) rfl (fun K hK => ?_) AllReadyH.nil
                    go_simp
                    refine (above_any _ _ a b p.k _ _ _ (by rw [← HCA.out]; exact HS.out.va) (by rw [← HCB.out]; exact HS.out.vb) hsa hsb).mono ?_
                    rintro e Uh25u1 ⟨rfl, hb⟩
                    rw [Hab.out]
                    have hkp := hHeld.trans (hb.mono hHeld.size)
                    replace HS := hide9 (HS.out.below hb)
                    clear hb
                    (try go_wp2_with fail)
                    refine hK.out _ _ (hkp) (fun hHeld2 => ?_)
                    clear hK K hHeld
                    have hHeld := hHeld2
                    clear hHeld2
                    (try simp only [Act.put, List.setIfInBounds_toArray, List.set_cons_zero, List.set_cons_succ])
                    clear hkp
                    refine tkW 15 (some 72) (v := ?_) ?_ hHeld ?_
                    rotate_left
                    · (intro ww _; go_simp; try with_reducible rfl)
                    refine tkW 16 (some 73) (v := ?_) ?_ hHeld ?_
                    rotate_left
                    · (intro ww _; go_simp; try with_reducible rfl)
                    refine wpAnyH_done (by kernel_rfl) ?_ _
                    clear hHeld HS0 Hlg HX Hfx HY Hfy
                    go_wp2
                    go_roundw
                    case rel => exact ⟨i + 1, by go_num, by omega, HS⟩
                    case measure => simp [intOf]; omega
                  | true =>
                    have HS0 : Hid (EtS w a b CA CB ab bb N (some ⟨lg, 0, none⟩) D we) := HS
                    refine wp_region_held_drew (S := fun W' => Below we.heap.size we W') (by kernel_rfl) (Below.refl _ _).drew (fun hHeld => ?_)
                    obtain ⟨Uh36u0, eW⟩ : ∃ X, X = we.drew := ⟨_, rfl⟩
                    have hb : Below we.heap.size we Uh36u0 := by rw [eW]; exact (Below.refl _ _).drew
                    replace HS : Hid (EtS w a b CA CB ab bb N (some ⟨lg, 0, none⟩) D Uh36u0) := HS.out.below hb
                    rw [← eW] at hHeld ⊢
                    clear eW hb
                    refine tkW 0 (some 57) (v := ?_) ?_ hHeld ?_
                    rotate_left
                    · (intro ww _; go_simp; try with_reducible rfl)
                    refine tkW 1 (some 58) (v := ?_) ?_ hHeld ?_
                    rotate_left
                    · (intro ww _; go_simp; try with_reducible rfl)
                    refine tkW 2 (some 59) (v := ?_) ?_ hHeld ?_
                    rotate_left
                    · (intro ww _; go_simp; try with_reducible rfl)
                    refine tkW 3 (some 60) (v := ?_) ?_ hHeld ?_
                    rotate_left
                    · (intro ww _; go_simp; try with_reducible rfl)
                    refine tkW 4 (some 61) (v := ?_) ?_ hHeld ?_
                    rotate_left
                    · (intro ww _; go_simp; try with_reducible rfl)
                    refine tkW 5 (some 62) (v := ?_) ?_ hHeld ?_
                    rotate_left
                    · (intro ww _; go_simp; try with_reducible rfl)
                    refine tkW 6 (some 63) (v := ?_) ?_ hHeld ?_
                    rotate_left
                    · (intro ww _; go_simp; try with_reducible rfl)
                    refine tkW 7 (some 64) (v := ?_) ?_ hHeld ?_
                    rotate_left
                    · (intro ww hSw; (try dsimp only at hSw); have hr9 : ww.heap[ab]? = some (.cells #[.int .i64 a.k.1, .int .i64 a.k.2, .string a.tg, .string a.tx, .slice aa a.at_.length ca, .slice ak a.ks.length da] 27) := ((hSw.block _ (row_lt HS0.out.r1)).trans HS0.out.r1).trans (by rw [HCA.out]); obtain ⟨y0, y1, y2, y3, y4, y5⟩ := row6d hr9; go_simp; try with_reducible rfl)
                    refine tkW 8 (some 65) (v := ?_) ?_ hHeld ?_
                    rotate_left
                    · (intro ww hSw; (try dsimp only at hSw); have hr9 : ww.heap[bb]? = some (.cells #[.int .i64 b.k.1, .int .i64 b.k.2, .string b.tg, .string b.tx, .slice ba b.at_.length cb, .slice bk b.ks.length db] 27) := ((hSw.block _ (row_lt HS0.out.r2)).trans HS0.out.r2).trans (by rw [HCB.out]); obtain ⟨y0, y1, y2, y3, y4, y5⟩ := row6d hr9; go_simp; try with_reducible rfl)
                    refine tkW 9 (some 66) (v := ?_) ?_ hHeld ?_
                    rotate_left
                    · (intro ww _; go_simp; try with_reducible rfl)
                    refine tkW 10 (some 67) (v := ?_) ?_ hHeld ?_
                    rotate_left
                    · (intro ww _; go_simp; try with_reducible rfl)
                    refine tkW 11 (some 68) (v := ?_) ?_ hHeld ?_
                    rotate_left
                    · (intro ww hSw; (try dsimp only at hSw); go_simp; try with_reducible rfl)
                    refine tkW 12 (some 69) (v := ?_) ?_ hHeld ?_
                    rotate_left
                    · (intro ww _; go_simp; try with_reducible rfl)
                    refine tkW 13 (some 70) (v := ?_) ?_ hHeld ?_
                    rotate_left
                    · (intro ww hSw; (try dsimp only at hSw); have q1 := (hSw.cell (p := ⟨lg, i * 9 + 1, none⟩) Hlg.out.1).trans Hlg.out.2.2.1; have q2 := (hSw.cell (p := ⟨lg, i * 9 + 1 + 1, none⟩) Hlg.out.1).trans Hlg.out.2.2.2; go_simp; try with_reducible rfl)
                    refine wpAnyH_ready (rs := [14]) (by kernel_rfl) (by simp) ?_
                    refine AllReadyH.cons (o := ⟨some 71, _, _, _, _, _⟩) rfl (fun K hK => ?_) AllReadyH.nil
                    go_simp
                    refine (above_any _ _ a b p.k _ _ _ (by rw [← HCA.out]; exact HS.out.va) (by rw [← HCB.out]; exact HS.out.vb) hsa hsb).mono ?_
                    rintro e Uh36u1 ⟨rfl, hb⟩
                    rw [Hab.out]
                    have hkp := hHeld.trans (hb.mono hHeld.size)
                    replace HS := hide9 (HS.out.below hb)
                    clear hb
                    (try go_wp2_with fail)
                    refine hK.out _ _ (hkp) (fun hHeld2 => ?_)
                    clear hK K hHeld
                    have hHeld := hHeld2
                    clear hHeld2
                    (try simp only [Act.put, List.setIfInBounds_toArray, List.set_cons_zero, List.set_cons_succ])
                    clear hkp
                    refine tkW 15 (some 72) (v := ?_) ?_ hHeld ?_
                    rotate_left
                    · (intro ww _; go_simp; try with_reducible rfl)
                    refine tkW 16 (some 73) (v := ?_) ?_ hHeld ?_
                    rotate_left
                    · (intro ww _; go_simp; try with_reducible rfl)
                    refine wpAnyH_done (by kernel_rfl) ?_ _
                    have HXz : Hid (Uh36u1.heap[xb]? = some (.cells #[.int .i64 x.k.1, .int .i64 x.k.2, .string x.tg, .string x.tx, .slice xa x.at_.length xc, .slice xk x.ks.length xd] 27)) := (hHeld.block _ (row_lt HX.out)).trans HX.out
                    have HYz : Hid (Uh36u1.heap[yb]? = some (.cells #[.int .i64 y.k.1, .int .i64 y.k.2, .string y.tg, .string y.tx, .slice ya y.at_.length yc, .slice yk y.ks.length yd] 27)) := (hHeld.block _ (row_lt HY.out)).trans HY.out
                    have Hfxz := hide9 (Hfx.out.below hHeld)
                    have Hfyz := hide9 (Hfy.out.below hHeld)
                    clear hHeld HS0 Hlg HX Hfx HY Hfy
                    have HTu := hide9 (Htp.out Hha.out Hhb.out Hab.out)
                    obtain ⟨u0, u1, u2, u3, u4, u5⟩ := row6d HXz.out
                    obtain ⟨v0, v1, v2, v3, v4, v5⟩ := row6d HYz.out
                    go_upto_region 12 with fail
                    go_cut [12] from 31 to 136 (fun v12 W => v12 = .bool (ownB x y) ∧ Hid (EtS w a b CA CB ab bb N (some ⟨lg, 0, none⟩) D W))
                    case first =>
                      by_cases htg : x.tg = y.tg
                      · have tgq : (x.tg.toList == y.tg.toList) = true := (by rw [txt_eq]; exact decide_eq_true htg)
                        have Htg : Hid (x.tg = y.tg) := htg
                        clear htg
                        by_cases htx : x.tx = y.tx
                        · have txq : (x.tx.toList == y.tx.toList) = true := (by rw [txt_eq]; exact decide_eq_true htx)
                          have Htx : Hid (x.tx = y.tx) := htx
                          clear htx
                          go_wp2_with fail
                          clear tgq txq u0 u1 u2 u3 u4 u5 v0 v1 v2 v3 v4 v5
                          refine (sameAttrs_any _ _ _ _ x.at_ y.at_ _ Hfxz.out Hfyz.out).mono ?_
                          rintro e w8 ⟨rfl, hb⟩
                          replace HS := hide9 (HS.out.below hb)
                          clear hb Hfxz Hfyz HXz HYz
                          have Hown : Hid (ownB x y = !decide (x.at_ = y.at_)) := (by show _ = _; unfold ownB; simp [Htg.out, Htx.out])
                          obtain ⟨sa9, esa⟩ : ∃ v : Bool, decide (x.at_ = y.at_) = v := ⟨_, rfl⟩
                          rw [esa] at Hown ⊢
                          clear esa
                          go_wp2
                          go_meet
                          case rel => exact ⟨(by rw [Hown.out]), HS⟩
                        · have txq : (x.tx.toList == y.tx.toList) = false := (by rw [txt_eq]; exact decide_eq_false htx)
                          have Hown : Hid (ownB x y = true) := (by show _ = _; unfold ownB; simp [htx])
                          clear htx
                          go_wp2
                          go_meet
                          case rel => exact ⟨(by rw [Hown.out]), HS⟩
                      · have tgq : (x.tg.toList == y.tg.toList) = false := (by rw [txt_eq]; exact decide_eq_false htg)
                        have Hown : Hid (ownB x y = true) := (by show _ = _; unfold ownB; simp [htg])
                        clear htg
                        go_wp2
                        go_meet
                        case rel => exact ⟨(by rw [Hown.out]), HS⟩
                    case rest =>
                      obtain ⟨rfl, HS⟩ := hcut
                      clear HXz HYz Hfxz Hfyz u0 u1 u2 u3 u4 u5 v0 v1 v2 v3 v4 v5
                      have Hlg : Hid (lg < wc.heap.size ∧ wc.cell? ⟨lg, i * 9, none⟩ = some (.int .i64 p.kd) ∧ wc.cell? ⟨lg, i * 9 + 1, none⟩ = some (.int .i64 p.k.1) ∧ wc.cell? ⟨lg, i * 9 + 1 + 1, none⟩ = some (.int .i64 p.k.2)) := (by obtain ⟨_, hx0, h2, h3⟩ := HS.out.ol.resolve_left (fun e => by rw [e] at hlt; simp at hlt); injection hx0 with hx0; injection hx0 with hx0 _ _; subst hx0; exact ⟨h2, by rw [Hp9.out]; exact h3 i hlt 0 _ rfl, by rw [Hp9.out]; exact h3 i hlt 1 _ rfl, by rw [Hp9.out]; exact h3 i hlt 2 _ rfl⟩)
                      obtain ⟨_, x0, _, _⟩ := Hlg.out
                      obtain ⟨wf, ewf⟩ : ∃ X, X = wc := ⟨_, rfl⟩
                      rw [← ewf] at HS Hlg x0 ⊢
                      clear ewf
                      by_cases h5 : p.kd = 5
                      · have Hsh := hide9 (HTu.out.1 h5)
                        rw [h5] at x0
                        go_upto_region 16 with fail
                        go_cut [13] from 31 to 136 (fun v13 W => ∃ nb : Nat, v13 = .pointer (some ⟨nb, 0, none⟩) ∧ Hid (W.heap[nb]? = some (.cells #[.int .i64 (parR [] (flatD b 0) p.k).1.1, .int .i64 (parR [] (flatD b 0) p.k).1.2] 23)) ∧ Hid (EtS w a b CA CB ab bb N (some ⟨lg, 0, none⟩) D W))
                        case first =>
                          have HS0 : Hid (EtS w a b CA CB ab bb N (some ⟨lg, 0, none⟩) D wf) := HS
                          refine wp_region_held_drew (S := fun W' => Below wf.heap.size wf W') (by kernel_rfl) (Below.refl _ _).drew (fun hHeld => ?_)
                          obtain ⟨Uk7u0, eW⟩ : ∃ X, X = wf.drew := ⟨_, rfl⟩
                          have hb : Below wf.heap.size wf Uk7u0 := by rw [eW]; exact (Below.refl _ _).drew
                          replace HS : Hid (EtS w a b CA CB ab bb N (some ⟨lg, 0, none⟩) D Uk7u0) := HS.out.below hb
                          rw [← eW] at hHeld ⊢
                          clear eW hb
                          refine tkW 0 (some 111) (v := ?_) ?_ hHeld ?_
                          rotate_left
                          · (intro ww hSw; (try dsimp only at hSw); have hr9 : ww.heap[bb]? = some (.cells #[.int .i64 b.k.1, .int .i64 b.k.2, .string b.tg, .string b.tx, .slice ba b.at_.length cb, .slice bk b.ks.length db] 27) := ((hSw.block _ (row_lt HS0.out.r2)).trans HS0.out.r2).trans (by rw [HCB.out]); obtain ⟨y0, y1, y2, y3, y4, y5⟩ := row6d hr9; go_simp; try with_reducible rfl)
                          refine tkW 1 (some 112) (v := ?_) ?_ hHeld ?_
                          rotate_left
                          · (intro ww _; go_simp; try with_reducible rfl)
                          refine tkW 2 (some 113) (v := ?_) ?_ hHeld ?_
                          rotate_left
                          · (intro ww _; go_simp; try with_reducible rfl)
                          refine tkW 3 (some 114) (v := ?_) ?_ hHeld ?_
                          rotate_left
                          · (intro ww hSw; (try dsimp only at hSw); go_simp; try with_reducible rfl)
                          refine tkW 4 (some 115) (v := ?_) ?_ hHeld ?_
                          rotate_left
                          · (intro ww _; go_simp; try with_reducible rfl)
                          refine tkW 5 (some 116) (v := ?_) ?_ hHeld ?_
                          rotate_left
                          · (intro ww hSw; (try dsimp only at hSw); have q1 := (hSw.cell (p := ⟨lg, i * 9 + 1, none⟩) Hlg.out.1).trans Hlg.out.2.2.1; have q2 := (hSw.cell (p := ⟨lg, i * 9 + 1 + 1, none⟩) Hlg.out.1).trans Hlg.out.2.2.2; go_simp; try with_reducible rfl)
                          refine wpAnyH_ready (rs := [6, 10]) (by kernel_rfl) (by simp) ?_
                          refine AllReadyH.cons (o := ⟨some 117, _, _, _, _, _⟩) rfl (fun K hK => ?_) (AllReadyH.cons (o := ⟨some 13, _, _, _, _, _⟩) rfl (fun K hK => ?_) AllReadyH.nil)
                          · go_simp
                            refine (refParent_any _ b p.k _ _ (by rw [← HCB.out]; exact HS.out.vb) hsb).mono ?_
                            rintro e Uk7u1 ⟨rfl, hb⟩
                            have hkp := hHeld.trans (hb.mono hHeld.size)
                            replace HS := hide9 (HS.out.below hb)
                            clear hb
                            (try go_wp2_with fail)
                            refine hK.out _ _ (hkp) (fun hHeld2 => ?_)
                            clear hK K hHeld
                            have hHeld := hHeld2
                            clear hHeld2
                            (try simp only [Act.put, List.setIfInBounds_toArray, List.set_cons_zero, List.set_cons_succ])
                            clear hkp
                            refine tkW 7 (some 110) (v := ?_) ?_ hHeld ?_
                            rotate_left
                            · (intro ww _; go_simp; try with_reducible rfl)
                            refine tkW 8 (some 118) (v := ?_) ?_ hHeld ?_
                            rotate_left
                            · (intro ww _; go_simp; try with_reducible rfl)
                            refine tkW 9 (some 119) (v := ?_) ?_ hHeld ?_
                            rotate_left
                            · (intro ww _; go_simp; try with_reducible rfl)
                            refine wpAnyH_ready (rs := [10]) (by kernel_rfl) (by simp) ?_
                            refine AllReadyH.cons (o := ⟨some 13, _, _, _, _, _⟩) rfl (fun K hK => ?_) AllReadyH.nil
                            have hbx : Below Uk7u1.heap.size Uk7u1 (Uk7u1.alloc (.cells #[.int .i64 0, .int .i64 0] 23)) := (Below.refl _ _).alloc (Nat.le_refl _) _
                            have HNb : Hid (wf.heap.size ≤ Uk7u1.heap.size) := hHeld.size
                            go_simp
                            refine hK.out _ _ (hHeld.trans (hbx.mono hHeld.size)) (fun hHeld2 => ?_)
                            clear hK K hHeld
                            have hHeld := hHeld2
                            clear hHeld2
                            (try simp only [Act.put, List.setIfInBounds_toArray, List.set_cons_zero, List.set_cons_succ])
                            obtain ⟨Uk7u2, eW⟩ : ∃ X, X = Uk7u1.alloc (.cells #[.int .i64 0, .int .i64 0] 23) := ⟨_, rfl⟩
                            have hb : Below Uk7u1.heap.size Uk7u1 Uk7u2 := by rw [eW]; exact (Below.refl _ _).alloc (Nat.le_refl _) _
                            have HZ : Hid (Uk7u2.heap[Uk7u1.heap.size]? = some (.cells #[.int .i64 0, .int .i64 0] 23)) := (by rw [eW]; exact heap_alloc_new _ _)
                            rw [← eW] at hHeld ⊢
                            clear eW
                            clear hbx
                            obtain ⟨nb, enb⟩ : ∃ b, b = Uk7u1.heap.size := ⟨_, rfl⟩
                            rw [← enb] at HZ HNb ⊢
                            clear enb
                            clear hb
                            refine wpAnyH_ready (rs := [11]) (by kernel_rfl) (by simp) ?_
                            refine AllReadyH.cons (o := ⟨none, _, _, _, _, _⟩) rfl (fun K hK => ?_) AllReadyH.nil
                            refine step_store_row rfl 23 (.tmp 13) (.tmp 118) rfl nb 23 #[.int .i64 0, .int .i64 0] #[.int .i64 (parR [] (flatD b 0) p.k).1.1, .int .i64 (parR [] (flatD b 0) p.k).1.2] rfl rfl HZ.out sizeStamp rfl (by simp [Value.oneCell']) ?_
                            obtain ⟨Uk7u3, eW⟩ : ∃ Y, Y = Uk7u2.setRow nb #[.int .i64 (parR [] (flatD b 0) p.k).1.1, .int .i64 (parR [] (flatD b 0) p.k).1.2] := ⟨_, rfl⟩
                            rw [← eW]
                            have HQ : Hid (Uk7u3.heap[nb]? = some (.cells #[.int .i64 (parR [] (flatD b 0) p.k).1.1, .int .i64 (parR [] (flatD b 0) p.k).1.2] 23)) := (by rw [eW]; exact setRow_same HZ.out)
                            have hbz : Below wf.heap.size wf Uk7u3 := (by rw [eW]; exact hHeld.grown (grown_setRow _ _ _) hHeld.size (fun k e => by cases e; exact HNb.out))
                            replace HS : Hid (EtS w a b CA CB ab bb N (some ⟨lg, 0, none⟩) D Uk7u3) := HS0.out.below hbz
                            clear eW
                            refine hK.out _ _ (hbz) (fun hHeld2 => ?_)
                            clear hK K hHeld
                            have hHeld := hHeld2
                            clear hHeld2
                            (try simp only [Act.put, List.setIfInBounds_toArray, List.set_cons_zero, List.set_cons_succ])
                            clear hbz HZ HNb
                            refine tkW 12 (some 14) (v := ?_) ?_ hHeld ?_
                            rotate_left
                            · (intro ww _; go_simp; try with_reducible rfl)
                            refine wpAnyH_done (by kernel_rfl) ?_ _
                            clear hHeld HS0 Hlg x0
                            go_wp2
                            go_meet
                            case rel => exact ⟨nb, rfl, HQ, HS⟩
                          · have hbx : Below Uk7u0.heap.size Uk7u0 (Uk7u0.alloc (.cells #[.int .i64 0, .int .i64 0] 23)) := (Below.refl _ _).alloc (Nat.le_refl _) _
                            have HNb : Hid (wf.heap.size ≤ Uk7u0.heap.size) := hHeld.size
                            go_simp
                            refine hK.out _ _ (hHeld.trans (hbx.mono hHeld.size)) (fun hHeld2 => ?_)
                            clear hK K hHeld
                            have hHeld := hHeld2
                            clear hHeld2
                            (try simp only [Act.put, List.setIfInBounds_toArray, List.set_cons_zero, List.set_cons_succ])
                            obtain ⟨Uk7u4, eW⟩ : ∃ X, X = Uk7u0.alloc (.cells #[.int .i64 0, .int .i64 0] 23) := ⟨_, rfl⟩
                            have hb : Below Uk7u0.heap.size Uk7u0 Uk7u4 := by rw [eW]; exact (Below.refl _ _).alloc (Nat.le_refl _) _
                            replace HS : Hid (EtS w a b CA CB ab bb N (some ⟨lg, 0, none⟩) D Uk7u4) := HS.out.below hb
                            have HZ : Hid (Uk7u4.heap[Uk7u0.heap.size]? = some (.cells #[.int .i64 0, .int .i64 0] 23)) := (by rw [eW]; exact heap_alloc_new _ _)
                            rw [← eW] at hHeld ⊢
                            clear eW
                            clear hbx
                            obtain ⟨nb, enb⟩ : ∃ b, b = Uk7u0.heap.size := ⟨_, rfl⟩
                            rw [← enb] at HZ HNb ⊢
                            clear enb
                            clear hb
                            refine wpAnyH_ready (rs := [6]) (by kernel_rfl) (by simp) ?_
                            refine AllReadyH.cons (o := ⟨some 117, _, _, _, _, _⟩) rfl (fun K hK => ?_) AllReadyH.nil
                            go_simp
                            refine (refParent_any _ b p.k _ _ (by rw [← HCB.out]; exact HS.out.vb) hsb).mono ?_
                            rintro e Uk7u5 ⟨rfl, hb⟩
                            replace HZ := hide9 ((hb.block _ (row_lt HZ.out)).trans HZ.out)
                            have hkp := hHeld.trans (hb.mono hHeld.size)
                            replace HS := hide9 (HS.out.below hb)
                            clear hb
                            (try go_wp2_with fail)
                            refine hK.out _ _ (hkp) (fun hHeld2 => ?_)
                            clear hK K hHeld
                            have hHeld := hHeld2
                            clear hHeld2
                            (try simp only [Act.put, List.setIfInBounds_toArray, List.set_cons_zero, List.set_cons_succ])
                            clear hkp
                            refine tkW 7 (some 110) (v := ?_) ?_ hHeld ?_
                            rotate_left
                            · (intro ww _; go_simp; try with_reducible rfl)
                            refine tkW 8 (some 118) (v := ?_) ?_ hHeld ?_
                            rotate_left
                            · (intro ww _; go_simp; try with_reducible rfl)
                            refine tkW 9 (some 119) (v := ?_) ?_ hHeld ?_
                            rotate_left
                            · (intro ww _; go_simp; try with_reducible rfl)
                            refine wpAnyH_ready (rs := [11]) (by kernel_rfl) (by simp) ?_
                            refine AllReadyH.cons (o := ⟨none, _, _, _, _, _⟩) rfl (fun K hK => ?_) AllReadyH.nil
                            refine step_store_row rfl 23 (.tmp 13) (.tmp 118) rfl nb 23 #[.int .i64 0, .int .i64 0] #[.int .i64 (parR [] (flatD b 0) p.k).1.1, .int .i64 (parR [] (flatD b 0) p.k).1.2] rfl rfl HZ.out sizeStamp rfl (by simp [Value.oneCell']) ?_
                            obtain ⟨Uk7u6, eW⟩ : ∃ Y, Y = Uk7u5.setRow nb #[.int .i64 (parR [] (flatD b 0) p.k).1.1, .int .i64 (parR [] (flatD b 0) p.k).1.2] := ⟨_, rfl⟩
                            rw [← eW]
                            have HQ : Hid (Uk7u6.heap[nb]? = some (.cells #[.int .i64 (parR [] (flatD b 0) p.k).1.1, .int .i64 (parR [] (flatD b 0) p.k).1.2] 23)) := (by rw [eW]; exact setRow_same HZ.out)
                            have hbz : Below wf.heap.size wf Uk7u6 := (by rw [eW]; exact hHeld.grown (grown_setRow _ _ _) hHeld.size (fun k e => by cases e; exact HNb.out))
                            replace HS : Hid (EtS w a b CA CB ab bb N (some ⟨lg, 0, none⟩) D Uk7u6) := HS0.out.below hbz
                            clear eW
                            refine hK.out _ _ (hbz) (fun hHeld2 => ?_)
                            clear hK K hHeld
                            have hHeld := hHeld2
                            clear hHeld2
                            (try simp only [Act.put, List.setIfInBounds_toArray, List.set_cons_zero, List.set_cons_succ])
                            clear hbz HZ HNb
                            refine tkW 12 (some 14) (v := ?_) ?_ hHeld ?_
                            rotate_left
                            · (intro ww _; go_simp; try with_reducible rfl)
                            refine wpAnyH_done (by kernel_rfl) ?_ _
                            clear hHeld HS0 Hlg x0
                            go_wp2
                            go_meet
                            case rel => exact ⟨nb, rfl, HQ, HS⟩
                        case rest =>
                          obtain ⟨qb, rfl, HQ, HS⟩ := hcut
                          clear Hlg x0
                          obtain ⟨q9, eq9⟩ : ∃ q, q = (parR [] (flatD b 0) p.k).1 := ⟨_, rfl⟩
                          rw [← eq9] at HQ Hsh
                          clear eq9
                          obtain ⟨wg, ewg⟩ : ∃ X, X = wc := ⟨_, rfl⟩
                          rw [← ewg] at HS HQ ⊢
                          clear ewg
                          have HRb : Hid (wg.heap[bb]? = some (.cells #[.int .i64 b.k.1, .int .i64 b.k.2, .string b.tg, .string b.tx, .slice ba b.at_.length cb, .slice bk b.ks.length db] 27)) := HS.out.r2.trans (by rw [HCB.out])
                          obtain ⟨u0, u1⟩ := row2d HQ.out
                          obtain ⟨v0, v1, v2, v3, v4, v5⟩ := row6d HRb.out
                          go_wp2_with fail
                          clear u0 u1 v0 v1 v2 v3 v4 v5
                          refine (refFind_any _ b q9 _ _ (by rw [← HCB.out]; exact HS.out.vb) hsb).mono ?_
                          rintro e w5 ⟨n, av, kv, rfl, hwx, fx, hb⟩
                          obtain ⟨na, nc, ex1⟩ := fx.at_.form
                          obtain ⟨nk, nd, ex2⟩ := fx.ks.form
                          subst ex1 ex2
                          have Hwn : Hid (wasT b q9 = n) := hwx
                          rw [Hwn.out] at Hsh
                          have HN : Hid (VIs (fun k => k < wg.heap.size) w5 (.agg #[.int .i64 n.k.1, .int .i64 n.k.2, .string n.tg, .string n.tx, .slice na n.at_.length nc, .slice nk n.ks.length nd]) n) := ⟨_, _, rfl, fx⟩
                          replace HS := hide9 (HS.out.below hb)
                          clear hwx fx hb HQ HRb
                          have Hz : Hid ((w5.alloc (.cells #[.int .i64 0, .int .i64 0, .string ⟨#[]⟩, .string ⟨#[]⟩, .slice none 0 0, .slice none 0 0] 27)).heap[w5.heap.size]? = some (.cells #[.int .i64 0, .int .i64 0, .string ⟨#[]⟩, .string ⟨#[]⟩, .slice none 0 0, .slice none 0 0] 27)) := heap_alloc_new _ _
                          obtain ⟨W6, eW⟩ : ∃ X, X = (w5.alloc (.cells #[.int .i64 0, .int .i64 0, .string ⟨#[]⟩, .string ⟨#[]⟩, .slice none 0 0, .slice none 0 0] 27)).setRow w5.heap.size #[.int .i64 n.k.1, .int .i64 n.k.2, .string n.tg, .string n.tx, .slice na n.at_.length nc, .slice nk n.ks.length nd] := ⟨_, rfl⟩
                          have hb9 : Below w5.heap.size w5 W6 := (by rw [eW]; exact ((Below.refl _ _).alloc (Nat.le_refl _) _).grown (grown_setRow _ _ _) (by simp) (fun k e => by cases e; exact Nat.le_refl _))
                          obtain ⟨nb, enb⟩ : ∃ b, b = w5.heap.size := ⟨_, rfl⟩
                          have Hnb : Hid (W6.heap[nb]? = some (.cells #[.int .i64 n.k.1, .int .i64 n.k.2, .string n.tg, .string n.tx, .slice na n.at_.length nc, .slice nk n.ks.length nd] 27)) := (by show _ = _; rw [eW, enb]; exact setRow_same Hz.out)
                          have HE9 := hide9 (And.intro eW enb)
                          clear eW enb
                          replace HS := hide9 (HS.out.below hb9)
                          replace HN := hide9 (HN.out.below hb9)
                          clear hb9
                          go_wp2_with (refine wpList_store_row rfl 27 (.tmp 15) (.tmp 124) rfl w5.heap.size 27 #[.int .i64 0, .int .i64 0, .string ⟨#[]⟩, .string ⟨#[]⟩, .slice none 0 0, .slice none 0 0] #[.int .i64 n.k.1, .int .i64 n.k.2, .string n.tg, .string n.tx, .slice na n.at_.length nc, .slice nk n.ks.length nd] rfl rfl Hz.out sizeVy rfl (by simp [Value.oneCell']) ?_; refine StpD.to ?_)
                          refine StpD.of ?_
                          rw [← HE9.out.1, ← HE9.out.2]
                          clear HE9 Hz
                          obtain ⟨f1, f2, f3⟩ := Hri.out
                          have hln := plD_len f1 f2 f3 Hsh.out.1
                          have hns : n.sz ≤ 1048576 := Nat.le_trans (flT_sz Hsh.out.1) hsb
                          have hpl : (plD a b (wasT a n.k) n.ks).length ≤ 1048576 := (by rw [hln]; have h1 := stK_len a b n.ks; have h2 := szs_len n.ks; have h3 := n.sz_eq; omega)
                          have Hsl : Hid ((shD a b n).length ≤ 1048577) := (by show _ ≤ _; unfold shD; rw [List.length_map]; exact Nat.le_trans (oth_len _ _ _) (by omega))
                          have Hln := hide9 hln
                          have Hns := hide9 hns
                          have Hpl := hide9 hpl
                          clear f1 f2 f3 hln hns hpl
                          have Hlg : Hid (lg < W6.heap.size ∧ W6.cell? ⟨lg, i * 9, none⟩ = some (.int .i64 p.kd) ∧ W6.cell? ⟨lg, i * 9 + 1, none⟩ = some (.int .i64 p.k.1) ∧ W6.cell? ⟨lg, i * 9 + 1 + 1, none⟩ = some (.int .i64 p.k.2)) := (by obtain ⟨_, hx0, h2, h3⟩ := HS.out.ol.resolve_left (fun e => by rw [e] at hlt; simp at hlt); injection hx0 with hx0; injection hx0 with hx0 _ _; subst hx0; exact ⟨h2, by rw [Hp9.out]; exact h3 i hlt 0 _ rfl, by rw [Hp9.out]; exact h3 i hlt 1 _ rfl, by rw [Hp9.out]; exact h3 i hlt 2 _ rfl⟩)
                          go_upto_region 18 with fail
                          have HS0 : Hid (EtS w a b CA CB ab bb N (some ⟨lg, 0, none⟩) D W6) := HS
                          refine wp_region_held_drew (S := fun W' => Below W6.heap.size W6 W') (by kernel_rfl) (Below.refl _ _).drew (fun hHeld => ?_)
                          obtain ⟨Ul8u0, eW⟩ : ∃ X, X = W6.drew := ⟨_, rfl⟩
                          have hb : Below W6.heap.size W6 Ul8u0 := by rw [eW]; exact (Below.refl _ _).drew
                          replace HS : Hid (EtS w a b CA CB ab bb N (some ⟨lg, 0, none⟩) D Ul8u0) := HS.out.below hb
                          rw [← eW] at hHeld ⊢
                          clear eW hb
                          refine tkW 0 (some 126) (v := ?_) ?_ hHeld ?_
                          rotate_left
                          · (intro ww hSw; (try dsimp only at hSw); have hr9 : ww.heap[ab]? = some (.cells #[.int .i64 a.k.1, .int .i64 a.k.2, .string a.tg, .string a.tx, .slice aa a.at_.length ca, .slice ak a.ks.length da] 27) := ((hSw.block _ (row_lt HS0.out.r1)).trans HS0.out.r1).trans (by rw [HCA.out]); obtain ⟨y0, y1, y2, y3, y4, y5⟩ := row6d hr9; go_simp; try with_reducible rfl)
                          refine tkW 1 (some 127) (v := ?_) ?_ hHeld ?_
                          rotate_left
                          · (intro ww hSw; (try dsimp only at hSw); have hr9 : ww.heap[bb]? = some (.cells #[.int .i64 b.k.1, .int .i64 b.k.2, .string b.tg, .string b.tx, .slice ba b.at_.length cb, .slice bk b.ks.length db] 27) := ((hSw.block _ (row_lt HS0.out.r2)).trans HS0.out.r2).trans (by rw [HCB.out]); obtain ⟨y0, y1, y2, y3, y4, y5⟩ := row6d hr9; go_simp; try with_reducible rfl)
                          refine tkW 2 (some 128) (v := ?_) ?_ hHeld ?_
                          rotate_left
                          · (intro ww hSw; (try dsimp only at hSw); have hr9 := (hSw.block _ (row_lt Hnb.out)).trans Hnb.out; obtain ⟨y0, y1, y2, y3, y4, y5⟩ := row6d hr9; go_simp; try with_reducible rfl)
                          refine tkW 4 (some 130) (v := ?_) ?_ hHeld ?_
                          rotate_left
                          · (intro ww _; go_simp; try with_reducible rfl)
                          refine tkW 5 (some 131) (v := ?_) ?_ hHeld ?_
                          rotate_left
                          · (intro ww _; go_simp; try with_reducible rfl)
                          refine tkW 6 (some 132) (v := ?_) ?_ hHeld ?_
                          rotate_left
                          · (intro ww hSw; (try dsimp only at hSw); go_simp; try with_reducible rfl)
                          refine tkW 7 (some 133) (v := ?_) ?_ hHeld ?_
                          rotate_left
                          · (intro ww _; go_simp; try with_reducible rfl)
                          refine tkW 8 (some 134) (v := ?_) ?_ hHeld ?_
                          rotate_left
                          · (intro ww hSw; (try dsimp only at hSw); have q1 := (hSw.cell (p := ⟨lg, i * 9 + 1, none⟩) Hlg.out.1).trans Hlg.out.2.2.1; have q2 := (hSw.cell (p := ⟨lg, i * 9 + 1 + 1, none⟩) Hlg.out.1).trans Hlg.out.2.2.2; go_simp; try with_reducible rfl)
                          refine wpAnyH_ready (rs := [3]) (by kernel_rfl) (by simp) ?_
                          refine AllReadyH.cons (o := ⟨some 129, _, _, _, _, _⟩) rfl (fun K hK => ?_) AllReadyH.nil
                          go_simp
                          refine (refShifted_any _ _ _ a b n _ _ _ _ (by rw [← HCA.out]; exact HS.out.va) (by rw [← HCB.out]; exact HS.out.vb) (HN.out.below hHeld) hsa hsb Hns.out Hpl.out Hln.out).mono ?_
                          rintro e Ul8u1 ⟨sv, rfl, ho, hb⟩
                          obtain ⟨sa, sc, esv⟩ := OwnE.form ho
                          subst esv
                          have Ho := hide9 ho
                          have hkp := hHeld.trans (hb.mono hHeld.size)
                          replace HS := hide9 (HS.out.below hb)
                          clear ho hb
                          (try go_wp2_with fail)
                          refine hK.out _ _ (hkp) (fun hHeld2 => ?_)
                          clear hK K hHeld
                          have hHeld := hHeld2
                          clear hHeld2
                          (try simp only [Act.put, List.setIfInBounds_toArray, List.set_cons_zero, List.set_cons_succ])
                          clear hkp
                          refine wpAnyH_ready (rs := [9]) (by kernel_rfl) (by simp) ?_
                          refine AllReadyH.cons (o := ⟨some 135, _, _, _, _, _⟩) rfl (fun K hK => ?_) AllReadyH.nil
                          go_simp
                          refine (refHas_any _ _ (shD a b n) p.k _ Ho.out (Nat.le_trans Hsl.out (by decide))).mono ?_
                          rintro e Ul8u2 ⟨rfl, hb⟩
                          rw [Hsh.out.2]
                          have hkp := hHeld.trans (hb.mono hHeld.size)
                          replace HS := hide9 (HS.out.below hb)
                          clear hb
                          (try go_wp2_with fail)
                          refine hK.out _ _ (hkp) (fun hHeld2 => ?_)
                          clear hK K hHeld
                          have hHeld := hHeld2
                          clear hHeld2
                          (try simp only [Act.put, List.setIfInBounds_toArray, List.set_cons_zero, List.set_cons_succ])
                          clear hkp
                          refine tkW 10 (some 136) (v := ?_) ?_ hHeld ?_
                          rotate_left
                          · (intro ww _; go_simp; try with_reducible rfl)
                          refine wpAnyH_done (by kernel_rfl) ?_ _
                          clear hHeld HS0 Hlg Hnb HN
                          go_wp2
                          go_roundw
                          case rel => exact ⟨i + 1, by go_num, by omega, HS⟩
                          case measure => simp [intOf]; omega
                      · have Hown : Hid (ownB x y = true) := (by show _ = _; rw [← Hwx.out, ← Hwy.out]; exact HTu.out.2 h5)
                        rw [Hown.out]
                        obtain ⟨kd, ekd⟩ : ∃ x, x = p.kd := ⟨_, rfl⟩
                        rw [← ekd] at x0 h5
                        clear ekd
                        have h5b : (kd != 5) = true := bne_iff_ne.2 h5
                        have h5c : (kd == 5) = false := beq_eq_false_iff_ne.2 h5
                        go_wp2
                        go_roundw
                        case rel => exact ⟨i + 1, by go_num, by omega, HS⟩
                        case measure => simp [intOf]; omega
        · have k1 : ¬ (i : Int) < (D.length : Int) := by omega
          have HL : Hid (Below w.heap.size w wr) := HS.out.bel
          clear HS
          go_wp2_with fail
          refine (awakeD_any _).mono ?_
          rintro e w9 ⟨rfl, hb9⟩
          have HZ : Hid (Below w.heap.size w w9) := HL.out.trans (hb9.mono HL.out.size)
          clear hb9
          go_wp2
          (try rw [Exit.noGoto_ret])
          go_ret
          exact ⟨rfl, HZ.out⟩
    · unfold OfP at hP
      rw [if_neg hy] at hP
      obtain ⟨rfl, rfl⟩ := hP
      obtain ⟨cy, ecy⟩ : ∃ x, x = whyD a b := ⟨_, rfl⟩
      rw [← ecy] at hy ⊢
      clear ecy HA HB HR1 HR2
      go_wp2_with fail
      refine (awakeD_any _).mono ?_
      rintro e w9 ⟨rfl, hb9⟩
      have HZ : Hid (Below w.heap.size w w9) := HL.out.trans (hb9.mono HL.out.size)
      clear hb9
      go_wp2
      (try rw [Exit.noGoto_ret])
      go_ret
      exact ⟨rfl, HZ.out⟩

end Go.Proofs.Ythhnglpkfcmjiaa

namespace Go.Proofs.Ythhnglpkfcmjiaa
open Go.ChangeShapes Go.WideShapes Go.ChangeAt Go.RowKit
set_option linter.unusedVariables false

set_option maxRecDepth 100000 in
theorem diffTouches_lifted (os : Os) (started : os.Started) (H : Type) (enc : TypeId × Value → H) (F : Stop.Interp) :
    ReturnsInHanded {} Try.checked os 8 .any ((Rows.OpenSpec.upto Rows.diffTouchesSpec).pre6 enc Try.prog Try.f8 Rows.diffTouchesUptoRow.domain false) (((Rows.OpenSpec.upto Rows.diffTouchesSpec).at F).post enc Try.prog Try.f8 false true false false) := by
  refine returnsInHanded_of_cond_sized (C := Try.checked) (s := Rows.OpenSpec.upto Rows.diffTouchesSpec) (k := Rows.uptoSmall) rfl ownI started (by kernel_rfl) Try.func8
    (OpenSpec.witness (enc := enc) (C := Try.checked) (s := Rows.OpenSpec.upto Rows.diffTouchesSpec) (k := Rows.uptoSmall) rfl false ⟨#[], #[.agg #[.int .i64 0, .int .i64 0, .string ByteArray.empty, .string ByteArray.empty, .slice none 0 0, .slice none 0 0], .agg #[.int .i64 0, .int .i64 0, .string ByteArray.empty, .string ByteArray.empty, .slice none 0 0, .slice none 0 0]], []⟩ 8 (by kernel_rfl) (by kernel_rfl) (by kernel_rfl)
      (x := ([.agg [.agg [.lit (.int .i64 0), .lit (.int .i64 0)], .lit (.string []), .lit (.string []), .nil, .nil], .agg [.agg [.lit (.int .i64 0), .lit (.int .i64 0)], .lit (.string []), .lit (.string []), .nil, .nil]], [], [])) (by kernel_rfl) rfl (by kernel_rfl)) ?_
  intro W base args ds gs before hval0 hW _ hk hsz0 _
  have hval : ∀ (j : Nat) t v, Try.f8.params[j]? = some t → args[j]? = some v → Value.okWide Try.prog W .any base t v := hval0
  have hW' := hW
  obtain ⟨p, q, hA0, hV, rfl, hfz, hnd⟩ := hW
  have hA : DataW.TrodAll enc Try.prog W 0 (fun _ => true) true Try.f8.params.toList args.toList ds p := hA0
  rw [Try.params8] at hA hval
  obtain ⟨v0, v1, d0, d1, p0, p1, rfl, rfl, rfl, h0, h1⟩ := trodAll_two hA
  obtain ⟨rfl, rfl⟩ := trodVars_none hV
  have hk0 := h0
  have hk1 := h1
  have hb : Rows.uptoBulkAll _ ≤ 1048576 := of_decide_eq_true hk
  simp only [List.append_nil, Rows.uptoBulkAll] at hb
  have hsz : (DataW.weightsEach Try.prog [27, 27] [d0, d1]).all (· ≤ reachBytes) = true := hsz0
  have hw0 : ∀ n ∈ d0.weights Try.prog 27, n ≤ reachBytes := fun n hn => by
    have h1 := List.all_eq_true.1 hsz n (DataW.weights_mem_each (j := 0) rfl rfl n hn)
    simpa using h1
  obtain ⟨D0, is0, bn0, bk0⟩ := open_nodeV (hval 0 27 v0 rfl rfl) h0 hw0
  have hlt0 : ∀ x ∈ p0, x.block < W.heap.size := fun x hx => by simpa using hW'.lt x (by simp [hx])
  have hw1 : ∀ n ∈ d1.weights Try.prog 27, n ≤ reachBytes := fun n hn => by
    have h1 := List.all_eq_true.1 hsz n (DataW.weights_mem_each (j := 1) rfl rfl n hn)
    simpa using h1
  obtain ⟨D1, is1, bn1, bk1⟩ := open_nodeV (hval 1 27 v1 rfl rfl) h1 hw1
  have hlt1 : ∀ x ∈ p1, x.block < W.heap.size := fun x hx => by simpa using hW'.lt x (by simp [hx])
  clear hA0 hval0
  refine (diffTouches_walk v0 D0 v1 D1 W is0 (fun x hx => bn0 0 x hx) (by omega) is1 (fun x hx => bn1 0 x hx) (by omega)).mono fun e W' ⟨he, bel⟩ => ?_
  subst he
  exact ⟨_, rfl, _, _, _, [], _, [], hW', trodAll_mk1 (shut_bool Try.underlying4 _), trodAll_mk2 (Below.trod laidOutI (by kernel_rfl) (of_decide_eq_true (by kernel_rfl)) hk0 bel hlt0) (Below.trod laidOutI (by kernel_rfl) (of_decide_eq_true (by kernel_rfl)) hk1 bel hlt1), rfl, bel.frame _, fun h => by cases h⟩

theorem diffTouches_holds : Rows.DiffTouchesUptoSaid :=
  OpenClaim.holds_of_cond 8 Try.f8 rfl rfl rfl rfl rfl rfl rfl ⟨rfl, rfl, rfl, rfl, rfl⟩ rfl rfl rfl rfl rfl (by kernel_rfl) Try.func8 (by kernel_rfl)
    (of_decide_eq_true (by kernel_rfl)) (by unfold Func.isWrapper; first | (rw [if_pos (by decide +kernel)]; kernel_rfl) | (rw [if_neg (by decide +kernel)]; exact ⟨rfl, rfl⟩))
    (fun os started H enc _ F => diffTouches_lifted os started H enc F)
#print axioms diffTouches_holds
end Go.Proofs.Ythhnglpkfcmjiaa
