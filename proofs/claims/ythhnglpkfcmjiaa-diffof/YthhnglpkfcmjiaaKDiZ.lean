/- place: the steps by which the kids of a node come to stand in their order. -/
import Derived.Test.YthhnglpkfcmjiaaKDiY
namespace Go.Proofs.Ythhnglpkfcmjiaa
open Go.RowKit Go.Shelf
set_option linter.unusedVariables false
set_option linter.unusedSimpArgs false
attribute [local go_sem] Oper.semAt_some
def pM (k : St) (tg : ByteArray) : Pa := ⟨3, k, (0, 0), (0, 0), tg, ⟨#[]⟩⟩
def pP (k p s : St) : Pa := ⟨4, k, p, s, ⟨#[]⟩, ⟨#[]⟩⟩
def pH (k s : St) : Pa := ⟨5, k, (0, 0), s, ⟨#[]⟩, ⟨#[]⟩⟩
/-- The steps for a kid that is to stand behind s. -/
def plK (D : List Sd) (L : List St) (p s : St) (x : VT) : List Pa := match getP skU D x.k with
  | none => [pM x.k x.tg, pP x.k p s]
  | some y => if y.a = p then (if x.k ∈ L then [pH x.k s] else []) else [pP x.k p s]
def plL (D : List Sd) (L : List St) (p : St) : St → List VT → List Pa
  | _, [] => []
  | s, x :: r => plK D L p s x ++ plL D L p x.k r
def lstK : St → List VT → St
  | s, [] => s
  | _, x :: r => lstK x.k r
theorem lstK_snoc : ∀ (s : St) (l : List VT) (x : VT), lstK s (l ++ [x]) = x.k
  | _, [], _ => rfl
  | _, y :: r, x => lstK_snoc y.k r x
theorem plL_snoc (D : List Sd) (L : List St) (p : St) : ∀ (s : St) (l : List VT) (x : VT), plL D L p s (l ++ [x]) = plL D L p s l ++ plK D L p (lstK s l) x
  | s, [], x => by simp [plL, lstK]
  | s, y :: r, x => by rw [List.cons_append, plL, plL, plL_snoc D L p y.k r x, List.append_assoc]; rfl
theorem plK_len (D : List Sd) (L : List St) (p s : St) (x : VT) : (plK D L p s x).length ≤ 2 := by
  unfold plK
  split
  · simp
  · split
    · split <;> simp
    · simp
theorem plL_len (D : List Sd) (L : List St) (p : St) : ∀ (s : St) (l : List VT), (plL D L p s l).length ≤ 2 * l.length
  | _, [] => by simp [plL]
  | s, x :: r => by rw [plL, List.length_append, List.length_cons]; have := plK_len D L p s x; have := plL_len D L p x.k r; omega
theorem plK_eq {D : List Sd} {L M : List St} (h : ∀ s, s ∈ L ↔ s ∈ M) (p s : St) (x : VT) : plK D L p s x = plK D M p s x := by
  unfold plK
  simp only [h]
theorem plL_eq {D : List Sd} {L M : List St} (h : ∀ s, s ∈ L ↔ s ∈ M) (p : St) : ∀ (s : St) (l : List VT), plL D L p s l = plL D M p s l
  | _, [] => rfl
  | s, x :: r => by rw [plL, plL, plK_eq h, plL_eq h p x.k r]
theorem look_set {w : World} {sb : Nat} {L : List St} (h : MapIs id kU w sb L) (s : St) : (Instr.lookup 69 (.map (some sb)) (.agg #[.int .i64 s.1, .int .i64 s.2]) true).run Try.prog w = .ok (.tuple #[.agg #[], .bool (decide (s ∈ L))]) w := by
  refine (look_st 69 89 (.agg #[]) uSet zSet h s).trans ?_
  cases hg : getP id L s with
  | none =>
    have hn : ¬ s ∈ L := fun q => by
      unfold getP at hg
      rw [List.find?_eq_none] at hg
      have := hg s q
      simp at this
    rw [decide_eq_false hn]
  | some x =>
    have hx : s ∈ L := by
      unfold getP at hg
      have h1 := List.find?_some hg
      have h2 := List.mem_of_find?_eq_some hg
      simp at h1
      exact h1 ▸ h2
    rw [decide_eq_true hx]
    rfl
theorem sizeUni : (Try.prog.info? 89).map (·.size) = some 0 := by kernel_rfl
theorem neSt (a b : St) (v : Bool) (h : decide (a = b) = v) (w : World) : (binOp .neq 23 (.agg #[.int .i64 a.1, .int .i64 a.2]) (.agg #[.int .i64 b.1, .int .i64 b.2])).run Try.prog w = .ok (.bool (!v)) w := by rw [neqSt, ← h]
/-- What stands while steps are told: the last key in its box, the set, the row of steps. -/
structure PlS (w : World) (ab sb : Nat) (L : List St) (s : St) (v : Value) (R : List Pa) (W : World) : Prop where
  a : W.heap[ab]? = some (.cells #[.int .i64 s.1, .int .i64 s.2] 23)
  m : MapIs id kU W sb L
  ow : OwnPa w.heap.size W v R
  bel : Below w.heap.size w W
  le : w.heap.size ≤ ab
section
variable {w W W' : World} {ab sb : Nat} {L : List St} {s : St} {v v' : Value} {R R' : List Pa}
theorem PlS.below (h : PlS w ab sb L s v R W) (hb : Below W.heap.size W W') : PlS w ab sb L s v R W' := ⟨(hb.block _ (row_lt h.a)).trans h.a, h.m.keep (hb.block _ h.m.lt), OwnE.below h.ow hb, h.bel.trans (hb.mono h.bel.size), h.le⟩
theorem PlS.ne (h : PlS w ab sb L s v R W) {k : Nat} {c : Array Value} {T : TypeId} (hk : W.heap[k]? = some (.cells c T)) (hT : T ≠ 45) : k ≠ sb ∧ ¬ some k = v.ownBlock := by
  obtain ⟨es, cl, h1, _⟩ := h.m
  refine ⟨fun e => (by rw [e, h1] at hk; cases hk), fun e => ?_⟩
  · obtain ⟨c2, h2⟩ := own_cellsE h.ow e.symm
    rw [hk] at h2
    injection h2 with h2
    injection h2 with _ h3 _
    exact hT h3
theorem PlS.push (h : PlS w ab sb L s v R W) (hg : W.grownBy W' v.ownBlock) (ho : OwnPa w.heap.size W' v' R') : PlS w ab sb L s v' R' W' := by
  refine ⟨(hg.block _ (row_lt h.a) (h.ne h.a (by decide)).2).trans h.a, h.m.keep (hg.block _ h.m.lt fun e => ?_), ho, h.bel.grown hg h.bel.size (fun k e => (OwnE.lt h.ow k e).1), h.le⟩
  obtain ⟨es, cl, h1, _⟩ := h.m
  obtain ⟨c2, h2⟩ := own_cellsE h.ow e.symm
  rw [h1] at h2
  cases h2
theorem PlS.set (h : PlS w ab sb L s v R W) (u : St) : PlS w ab sb L u v R (W.setRow ab #[.int .i64 u.1, .int .i64 u.2]) := by
  have hg := grown_setRow W ab #[.int .i64 u.1, .int .i64 u.2]
  have hn := h.ne h.a (by decide)
  exact ⟨setRow_same h.a, h.m.keep (hg.block _ h.m.lt fun e => hn.1 (by injection e with e; exact e.symm)), OwnE.keep h.ow fun k e => hg.block k (OwnE.lt h.ow k e).2 (fun e2 => hn.2 (by rw [e]; exact e2.symm)), h.bel.grown hg h.bel.size (fun k e => by cases e; exact h.le), h.le⟩
end
set_option maxRecDepth 100000 in
set_option maxHeartbeats 8000000 in
theorem place_any (G : Nat → Prop) (D : List Sd) (mb nb no : Nat) (t : VT) (w : World) (hm : MpS w mb D) (hv : VAt G w t nb no) (hl : t.ks.length ≤ 1048576) :
    Calls Try.prog 33 #[.map (some mb), .pointer (some ⟨nb, no, none⟩)] w fun e w' => ∃ v, e = .returned v ∧ OwnPa w.heap.size w' v (plL D (shL D t) t.k (0, 0) t.ks) ∧ Below w.heap.size w w' := by
  obtain ⟨aa, ca, ak, ck, kc0, kc1, _, _, _, c5, f0⟩ := hv.cells
  have hkl := f0.ks.len
  have Hf : Hid (KsIs G w (.slice ak t.ks.length ck) t.ks) := f0.ks
  have Hkc : Hid (nb < w.heap.size ∧ w.cell? ⟨nb, no, none⟩ = some (.int .i64 t.k.1) ∧ w.cell? ⟨nb, no + 1, none⟩ = some (.int .i64 t.k.2)) := ⟨cell_lt (p := ⟨nb, no, none⟩) kc0, kc0, kc1⟩
  have Hm := hide9 hm
  have Hl := hide9 hl
  have Hv := hide9 hv
  have Hc5 := hide9 c5
  clear f0 hv hm hl kc0 kc1 c5
  go_enter Try.func33, Try.ntmps33
  go_wp2_with fail
  refine (shifted_any G D mb nb no t _ Hm.out Hv.out Hl.out).mono ?_
  rintro e V1 ⟨sb, L, rfl, hm1, hn1, hL1, hsb, hb1⟩
  have HL := hide9 hL1
  go_upto_region 4 with fail
  obtain ⟨V2, eW⟩ : ∃ X, X = V1.alloc (.cells #[.int .i64 0, .int .i64 0] 23) := ⟨_, rfl⟩
  obtain ⟨ab, eab⟩ : ∃ b, b = V1.heap.size := ⟨_, rfl⟩
  have hb2 : Below V1.heap.size V1 V2 := (by rw [eW]; exact (Below.refl _ _).alloc (Nat.le_refl _) _)
  have hA : V2.heap[ab]? = some (.cells #[.int .i64 0, .int .i64 0] 23) := (by rw [eW, eab]; exact heap_alloc_new _ _)
  have HS : Hid (PlS w ab sb L (0, 0) (.slice none 0 0) [] V2) := ⟨hA, hm1.keep (hb2.block _ hm1.lt), OwnE.nil0 _ _, hb1.trans (hb2.mono hb1.size), by rw [eab]; exact hb1.size⟩
  rw [← eW, ← eab]
  have c5 := (HS.out.bel.cell (p := ⟨nb, no + 5, none⟩) Hkc.out.1).trans Hc5.out
  clear eW eab hb2 hA hm1 hn1 hL1 hsb hb1 Hv Hc5
  go_wp2
  clear c5
  go_loopw [6, 22] (fun ov iv wr => ∃ (i : Nat) (R : List Pa) (s : St), iv = .int .i64 (i : Int) ∧ i ≤ t.ks.length ∧ Hid (PlS w ab sb L s ov R wr) ∧ Hid (R = plL D L t.k (0, 0) (t.ks.take i) ∧ s = lstK (0, 0) (t.ks.take i))) (fun _ iv _ => t.ks.length - (intOf iv).toNat)
  case atStart => exact ⟨0, [], (0, 0), rfl, Nat.zero_le _, HS, rfl, rfl⟩
  case round =>
    clear HS
    obtain ⟨i, R, s, rfl, hi, HS, HE⟩ := hrel
    obtain ⟨va, vc, e1⟩ := OwnE.form HS.out.ow
    subst e1
    by_cases hlt : i < t.ks.length
    · obtain ⟨b1, o1, es, hg1, hl1, hv1⟩ := Hf.out.kid hlt
      subst es
      have htk : Hid (t.ks.take (i + 1) = t.ks.take i ++ [t.ks[i]]) := List.take_succ_eq_append_getElem hlt
      obtain ⟨x, ex⟩ : ∃ x, x = t.ks[i] := ⟨_, rfl⟩
      rw [← ex] at hv1 htk
      obtain ⟨xa, cx, xk, dx, p0, p1, p2, p3, p4, p5, _⟩ := hv1.cells
      have Htk := htk
      have hll : R.length ≤ 2 * t.ks.length := (by rw [HE.out.1]; have := plL_len D L t.k (0, 0) (t.ks.take i); rw [List.length_take] at this; omega)
      have Hll : Hid (R.length ≤ 2097152) := (by have := Hl.out; show _ ≤ _; omega)
      have q0 := (HS.out.bel.cell (p := ⟨b1, o1 + i * 6, none⟩) hl1).trans p0
      have q1 := (HS.out.bel.cell (p := ⟨b1, o1 + i * 6 + 1, none⟩) hl1).trans p1
      have q2 := (HS.out.bel.cell (p := ⟨b1, o1 + i * 6 + 2, none⟩) hl1).trans p2
      have q3 := (HS.out.bel.cell (p := ⟨b1, o1 + i * 6 + 3, none⟩) hl1).trans p3
      have q4 := (HS.out.bel.cell (p := ⟨b1, o1 + i * 6 + 4, none⟩) hl1).trans p4
      have q5 := (HS.out.bel.cell (p := ⟨b1, o1 + i * 6 + 5, none⟩) hl1).trans p5
      have k1 : (i : Int) < (t.ks.length : Int) := by omega
      have k0 : (0 : Int) ≤ (i : Int) := by omega
      clear htk ex hv1 hg1 p0 p1 p2 p3 p4 p5 hll
      have Hz : Hid ((wr.alloc (.cells #[.int .i64 0, .int .i64 0, .string ⟨#[]⟩, .string ⟨#[]⟩, .slice none 0 0, .slice none 0 0] 27)).heap[wr.heap.size]? = some (.cells #[.int .i64 0, .int .i64 0, .string ⟨#[]⟩, .string ⟨#[]⟩, .slice none 0 0, .slice none 0 0] 27)) := heap_alloc_new _ _
      obtain ⟨W1, eW⟩ : ∃ X, X = (wr.alloc (.cells #[.int .i64 0, .int .i64 0, .string ⟨#[]⟩, .string ⟨#[]⟩, .slice none 0 0, .slice none 0 0] 27)).setRow wr.heap.size #[.int .i64 x.k.1, .int .i64 x.k.2, .string x.tg, .string x.tx, .slice xa x.at_.length cx, .slice xk x.ks.length dx] := ⟨_, rfl⟩
      have hb9 : Below wr.heap.size wr W1 := (by rw [eW]; exact ((Below.refl _ _).alloc (Nat.le_refl _) _).grown (grown_setRow _ _ _) (by simp) (fun k e => by cases e; exact Nat.le_refl _))
      obtain ⟨xb, enb⟩ : ∃ b, b = wr.heap.size := ⟨_, rfl⟩
      have Hxb : Hid (W1.heap[xb]? = some (.cells #[.int .i64 x.k.1, .int .i64 x.k.2, .string x.tg, .string x.tx, .slice xa x.at_.length cx, .slice xk x.ks.length dx] 27)) := (by show _ = _; rw [eW, enb]; exact setRow_same Hz.out)
      have HE9 := hide9 (And.intro eW enb)
      clear eW enb
      replace HS : Hid (PlS w ab sb L (s) (.slice va R.length vc) (R) W1) := HS.out.below hb9
      clear hb9
      go_wp2_with (refine wpList_store_row rfl 27 (.tmp 9) (.tmp 25) rfl wr.heap.size 27 #[.int .i64 0, .int .i64 0, .string ⟨#[]⟩, .string ⟨#[]⟩, .slice none 0 0, .slice none 0 0] #[.int .i64 x.k.1, .int .i64 x.k.2, .string x.tg, .string x.tx, .slice xa x.at_.length cx, .slice xk x.ks.length dx] rfl rfl Hz.out sizeVy rfl (by simp [Value.oneCell']) ?_; refine StpD.to ?_)
      refine StpD.of ?_
      rw [← HE9.out.1, ← HE9.out.2]
      clear HE9 Hz
      clear q0 q1 q2 q3 q4 q5
      obtain ⟨lv, lb, hlk, hbb⟩ := look_sd2 Hm.out x.k
      have Hbb := hide9 hbb
      clear hbb
      have hlk1 := hlk W1 (HS.out.bel.block mb Hm.out.lt)
      clear hlk
      obtain ⟨iz, eiz⟩ : ∃ b : Bool, b = decide (x.k ∈ L) := ⟨_, rfl⟩
      have Hiz := hide9 eiz
      clear eiz
      cases lb with
      | false =>
        simp only [Bool.false_eq_true, if_false] at hlk1
        obtain ⟨y0, y1, y2, y3, y4, y5⟩ := row6d Hxb.out
        have Hz : Hid ((W1.alloc (.cells #[.pointer none, .int .i64 0, .int .i64 0, .int .i64 0] 64)).heap[W1.heap.size]? = some (.cells #[.pointer none, .int .i64 0, .int .i64 0, .int .i64 0] 64)) := heap_alloc_new _ _
        obtain ⟨W2, eW⟩ : ∃ X, X = (W1.alloc (.cells #[.pointer none, .int .i64 0, .int .i64 0, .int .i64 0] 64)).setRow W1.heap.size #[.pointer none, .int .i64 0, .int .i64 0, .int .i64 0] := ⟨_, rfl⟩
        have hb9 : Below W1.heap.size W1 W2 := (by rw [eW]; exact ((Below.refl _ _).alloc (Nat.le_refl _) _).grown (grown_setRow _ _ _) (by simp) (fun k e => by cases e; exact Nat.le_refl _))
        obtain ⟨pb, enb⟩ : ∃ b, b = W1.heap.size := ⟨_, rfl⟩
        have Hpb : Hid (W2.heap[pb]? = some (.cells #[.pointer none, .int .i64 0, .int .i64 0, .int .i64 0] 64)) := (by show _ = _; rw [eW, enb]; exact setRow_same Hz.out)
        have HE9 := hide9 (And.intro eW enb)
        clear eW enb
        replace HS := hide9 (HS.out.below hb9)
        replace Hxb := hide9 ((hb9.block _ (row_lt Hxb.out)).trans Hxb.out)
        clear hb9
        go_wp2_with (refine wpList_store_row rfl 64 (.tmp 10) (.tmp 31) rfl W1.heap.size 64 #[.pointer none, .int .i64 0, .int .i64 0, .int .i64 0] #[.pointer none, .int .i64 0, .int .i64 0, .int .i64 0] rfl rfl Hz.out sizeSp rfl (by simp [Value.oneCell']) ?_; refine StpD.to ?_)
        refine StpD.of ?_
        rw [← HE9.out.1, ← HE9.out.2]
        clear HE9 Hz
        clear y0 y1 y2 y3 y4 y5 hlk1
        obtain ⟨y0, y1, y2, y3, y4, y5⟩ := row6d Hxb.out
        have hlk2 := look_set HS.out.m x.k
        rw [← Hiz.out] at hlk2
        have Hz : Hid ((W2.alloc (.cells #[] 89)).heap[W2.heap.size]? = some (.cells #[] 89)) := heap_alloc_new _ _
        obtain ⟨W3, eW⟩ : ∃ X, X = (W2.alloc (.cells #[] 89)).setRow W2.heap.size #[] := ⟨_, rfl⟩
        have hb9 : Below W2.heap.size W2 W3 := (by rw [eW]; exact ((Below.refl _ _).alloc (Nat.le_refl _) _).grown (grown_setRow _ _ _) (by simp) (fun k e => by cases e; exact Nat.le_refl _))
        obtain ⟨ub, enb⟩ : ∃ b, b = W2.heap.size := ⟨_, rfl⟩
        have Hub : Hid (W3.heap[ub]? = some (.cells #[] 89)) := (by show _ = _; rw [eW, enb]; exact setRow_same Hz.out)
        have HE9 := hide9 (And.intro eW enb)
        clear eW enb
        replace HS := hide9 (HS.out.below hb9)
        replace Hxb := hide9 ((hb9.block _ (row_lt Hxb.out)).trans Hxb.out)
        replace Hpb := hide9 ((hb9.block _ (row_lt Hpb.out)).trans Hpb.out)
        clear hb9
        go_wp2_with (refine wpList_store_row rfl 89 (.tmp 12) (.tmp 38) rfl W2.heap.size 89 #[] #[] rfl rfl Hz.out sizeUni rfl (by simp [Value.oneCell']) ?_; refine StpD.to ?_)
        refine StpD.of ?_
        rw [← HE9.out.1, ← HE9.out.2]
        clear HE9 Hz
        clear y0 y1 y2 y3 y4 y5 hlk2 Hub
        clear Hpb
        obtain ⟨y0, y1, y2, y3, y4, y5⟩ := row6d Hxb.out
        go_wp2_with (at_builtin; refine StpD.to ?_)
        refine StpD.of ?_
        clear y0 y1 y2 y3 y4 y5
        obtain ⟨W4, eWa⟩ : ∃ X, X = W3.alloc (.cells #[.int .i64 3, .int .i64 x.k.1, .int .i64 x.k.2, .int .i64 0, .int .i64 0, .int .i64 0, .int .i64 0, .string x.tg, .string ⟨#[]⟩] 45) := ⟨_, rfl⟩
        have hq : W4.heap[W3.heap.size]? = some (.cells (paCells (pM x.k x.tg)).toArray 45) := (by rw [eWa]; exact heap_alloc_new _ _)
        have hb4 : Below W3.heap.size W3 W4 := (by rw [eWa]; exact (Below.refl _ _).alloc (Nat.le_refl _) _)
        rw [← eWa]
        replace HS := hide9 (HS.out.below hb4)
        replace Hxb := hide9 ((hb4.block _ (row_lt Hxb.out)).trans Hxb.out)
        clear eWa hb4
        refine wpList_app1 rfl _ _ rfl w.heap.size (.slice va R.length vc) (R) rfl HS.out.ow W3.heap.size (pM x.k x.tg) rfl hq (Nat.le_trans Hll.out (by decide)) HS.out.bel.size ?_
        intro g4 c4 W5 ho hg
        replace Hxb := hide9 ((hg.block _ (row_lt Hxb.out) (HS.out.ne Hxb.out (by decide)).2).trans Hxb.out)
        replace HS := hide9 (HS.out.push hg ho)
        clear hq ho hg
        go_upto_region 13 with fail
        have HS0 : Hid (PlS w ab sb L (s) (.slice (some ⟨g4, 0, none⟩) (R.length + 1) c4) (R ++ [pM x.k x.tg]) W5) := HS
        have Hx0 : Hid (W5.heap[xb]? = some (.cells #[.int .i64 x.k.1, .int .i64 x.k.2, .string x.tg, .string x.tx, .slice xa x.at_.length cx, .slice xk x.ks.length dx] 27)) := Hxb
        have HKl : Hid (W5.cell? ⟨nb, no, none⟩ = some (.int .i64 t.k.1) ∧ W5.cell? ⟨nb, no + 1, none⟩ = some (.int .i64 t.k.2)) := ⟨(HS.out.bel.cell (p := ⟨nb, no, none⟩) Hkc.out.1).trans Hkc.out.2.1, (HS.out.bel.cell (p := ⟨nb, no + 1, none⟩) Hkc.out.1).trans Hkc.out.2.2⟩
        refine wp_region_held_drew (S := fun W' => KeepsS (fun j => j < w.heap.size ∨ j = xb ∨ j = ab) W5 W') (by kernel_rfl) (KeepsS.of_below (Below.refl W5.heap.size W5).drew (fun j q => by rcases q with q | rfl | rfl; exact Nat.lt_of_lt_of_le q HS0.out.bel.size; exact row_lt Hx0.out; exact row_lt HS0.out.a)) (fun hHeld => ?_)
        obtain ⟨Us01u0, eW⟩ : ∃ X, X = W5.drew := ⟨_, rfl⟩
        have hb : Below W5.heap.size W5 Us01u0 := by rw [eW]; exact (Below.refl _ _).drew
        replace HS : Hid (PlS w ab sb L (s) (.slice (some ⟨g4, 0, none⟩) (R.length + 1) c4) (R ++ [pM x.k x.tg]) Us01u0) := HS.out.below hb
        replace Hxb : Hid (Us01u0.heap[xb]? = some (.cells #[.int .i64 x.k.1, .int .i64 x.k.2, .string x.tg, .string x.tx, .slice xa x.at_.length cx, .slice xk x.ks.length dx] 27)) := (hb.block _ (row_lt Hxb.out)).trans Hxb.out
        rw [← eW] at hHeld ⊢
        clear eW hb
        refine tkW 0 (some 61) (v := ?_) ?_ hHeld ?_
        rotate_left
        · (intro ww _; go_simp; try with_reducible rfl)
        refine tkW 1 (some 62) (v := ?_) ?_ hHeld ?_
        rotate_left
        · (intro ww _; go_simp; try with_reducible rfl)
        refine tkW 2 (some 63) (v := ?_) ?_ hHeld ?_
        rotate_left
        · (intro ww hSw; (try dsimp only at hSw); obtain ⟨y0, y1, y2, y3, y4, y5⟩ := row6d ((hSw.2 xb (.inr (.inl rfl))).trans Hx0.out); go_simp; try with_reducible rfl)
        refine tkW 3 (some 64) (v := ?_) ?_ hHeld ?_
        rotate_left
        · (intro ww _; go_simp; try with_reducible rfl)
        refine tkW 4 (some 65) (v := ?_) ?_ hHeld ?_
        rotate_left
        · (intro ww hSw; (try dsimp only at hSw); go_simp; try with_reducible rfl)
        refine tkW 5 (some 66) (v := ?_) ?_ hHeld ?_
        rotate_left
        · (intro ww _; go_simp; try with_reducible rfl)
        refine tkW 6 (some 67) (v := ?_) ?_ hHeld ?_
        rotate_left
        · (intro ww hSw; (try dsimp only at hSw); have q6 : ww.cell? ⟨nb, no, none⟩ = some (.int .i64 t.k.1) := (hSw.cell (p := ⟨nb, no, none⟩) (.inl Hkc.out.1)).trans HKl.out.1; have q7 : ww.cell? ⟨nb, no + 1, none⟩ = some (.int .i64 t.k.2) := (hSw.cell (p := ⟨nb, no + 1, none⟩) (.inl Hkc.out.1)).trans HKl.out.2; go_simp; try with_reducible rfl)
        refine tkW 7 (some 68) (v := ?_) ?_ hHeld ?_
        rotate_left
        · (intro ww hSw; (try dsimp only at hSw); obtain ⟨y0, y1⟩ := row2d ((hSw.2 ab (.inr (.inr rfl))).trans HS0.out.a); go_simp; try with_reducible rfl)
        refine tkW 8 (some 69) (v := ?_) ?_ hHeld ?_
        rotate_left
        · (intro ww hSw; (try dsimp only at hSw); go_simp; try with_reducible rfl)
        refine wpAnyH_ready (rs := [9]) (by kernel_rfl) (by simp) ?_
        refine AllReadyH.cons (o := ⟨some 70, _, _, _, _, _⟩) rfl (fun K hK => ?_) AllReadyH.nil
        have hbx : Below Us01u0.heap.size Us01u0 (Us01u0.alloc (.cells #[.int .i64 4, .int .i64 x.k.1, .int .i64 x.k.2, .int .i64 t.k.1, .int .i64 t.k.2, .int .i64 s.1, .int .i64 s.2, .string ⟨#[]⟩, .string ⟨#[]⟩] 45)) := (Below.refl _ _).alloc (Nat.le_refl _) _
        go_simp
        refine hK.out _ _ (hHeld.trans (KeepsS.of_below hbx (fun j q => by rcases q with q | rfl | rfl; exact Nat.lt_of_lt_of_le q HS.out.bel.size; exact row_lt Hxb.out; exact row_lt HS.out.a))) (fun hHeld2 => ?_)
        clear hK K hHeld
        have hHeld := hHeld2
        clear hHeld2
        (try simp only [Act.put, List.setIfInBounds_toArray, List.set_cons_zero, List.set_cons_succ])
        obtain ⟨Us01u1, eW⟩ : ∃ X, X = Us01u0.alloc (.cells #[.int .i64 4, .int .i64 x.k.1, .int .i64 x.k.2, .int .i64 t.k.1, .int .i64 t.k.2, .int .i64 s.1, .int .i64 s.2, .string ⟨#[]⟩, .string ⟨#[]⟩] 45) := ⟨_, rfl⟩
        have hb : Below Us01u0.heap.size Us01u0 Us01u1 := by rw [eW]; exact (Below.refl _ _).alloc (Nat.le_refl _) _
        replace HS : Hid (PlS w ab sb L (s) (.slice (some ⟨g4, 0, none⟩) (R.length + 1) c4) (R ++ [pM x.k x.tg]) Us01u1) := HS.out.below hb
        replace Hxb : Hid (Us01u1.heap[xb]? = some (.cells #[.int .i64 x.k.1, .int .i64 x.k.2, .string x.tg, .string x.tx, .slice xa x.at_.length cx, .slice xk x.ks.length dx] 27)) := (hb.block _ (row_lt Hxb.out)).trans Hxb.out
        clear hbx
        have HVb : Hid (Us01u1.heap[Us01u0.heap.size]? = some (.cells (paCells (pP x.k t.k s)).toArray 45)) := by rw [eW]; exact heap_alloc_new _ _
        rw [← eW] at hHeld ⊢
        clear eW
        obtain ⟨qb, eqb⟩ : ∃ b, b = Us01u0.heap.size := ⟨_, rfl⟩
        rw [← eqb] at HVb ⊢
        clear eqb
        clear hb
        refine wpAnyH_ready (rs := [10]) (by kernel_rfl) (by simp) ?_
        refine AllReadyH.cons (o := ⟨some 71, _, _, _, _, _⟩) rfl (fun K hK => ?_) AllReadyH.nil
        refine step_app1 rfl _ _ (by rfl) w.heap.size (.slice (some ⟨g4, 0, none⟩) (R.length + 1) c4) (R ++ [pM x.k x.tg]) (by rfl) HS.out.ow qb (pP x.k t.k s) (by rfl) HVb.out (by have := Hll.out; (try simp only [List.length_append, List.length_cons, List.length_nil]); omega) HS.out.bel.size ?_
        intro g3 c3 Us01u2 ho3 hg3
        have h1 := HS.out.push hg3 ho3
        have hkp : KeepsS (fun j => j < w.heap.size ∨ j = xb ∨ j = ab) W5 Us01u2 := hHeld.trans ⟨hg3.size, fun j q => by rcases q with q | rfl | rfl; exact hg3.block j (Nat.lt_of_lt_of_le q HS.out.bel.size) (fun e => by have := (OwnE.lt HS.out.ow j e.symm).1; omega); exact hg3.block _ (row_lt Hxb.out) (HS.out.ne Hxb.out (by decide)).2; exact hg3.block _ (row_lt HS.out.a) (HS.out.ne HS.out.a (by decide)).2⟩
        replace Hxb := hide9 ((hg3.block _ (row_lt Hxb.out) (HS.out.ne Hxb.out (by decide)).2).trans Hxb.out)
        have HS2 := hide9 h1
        clear h1 ho3 hg3
        refine hK.out _ _ (hkp) (fun hHeld2 => ?_)
        clear hK K hHeld
        have hHeld := hHeld2
        clear hHeld2
        (try simp only [Act.put, List.setIfInBounds_toArray, List.set_cons_zero, List.set_cons_succ])
        clear hkp HS HVb
        refine tkW 11 (some 6) (v := ?_) ?_ hHeld ?_
        rotate_left
        · (intro ww _; go_simp; try with_reducible rfl)
        refine wpAnyH_done (by kernel_rfl) ?_ _
        clear hHeld HS0 Hx0 HKl
        replace HS2 : Hid (PlS w ab sb L s (.slice (some ⟨g3, 0, none⟩) (R.length + 1 + 1) c3) (R ++ [pM x.k x.tg] ++ [pP x.k t.k s]) Us01u2) := (by have h9 := HS2.out; rw [List.length_append] at h9; exact h9)
        have HS := HS2
        clear HS2
        obtain ⟨y0, y1, y2, y3, y4, y5⟩ := row6d Hxb.out
        go_wp2_with (refine wpList_store_row rfl 23 (.tmp 7) (.tmp 80) rfl ab 23 #[.int .i64 s.1, .int .i64 s.2] #[.int .i64 x.k.1, .int .i64 x.k.2] rfl rfl HS.out.a sizeStamp rfl (by simp [Value.oneCell']) ?_; refine StpD.to ?_)
        refine StpD.of ?_
        have HS9 := hide9 (HS.out.set x.k)
        obtain ⟨W9, eW9⟩ : ∃ X, X = Us01u2.setRow ab #[.int .i64 x.k.1, .int .i64 x.k.2] := ⟨_, rfl⟩
        rw [← eW9] at HS9 ⊢
        clear eW9 y0 y1 y2 y3 y4 y5 HS Hxb
        go_wp2
        go_roundw
        case rel => exact ⟨i + 1, _, x.k, by go_num, by omega, HS9, (by show _ ∧ _; rw [Htk.out, plL_snoc, lstK_snoc, ← HE.out.1, ← HE.out.2]; exact ⟨by unfold plK; rw [Hbb.out]; (try simp), rfl⟩)⟩
        case measure => simp [intOf]; omega
      | true =>
        simp only [if_true] at hlk1
        obtain ⟨y0, y1, y2, y3, y4, y5⟩ := row6d Hxb.out
        have Hz : Hid ((W1.alloc (.cells #[.pointer none, .int .i64 0, .int .i64 0, .int .i64 0] 64)).heap[W1.heap.size]? = some (.cells #[.pointer none, .int .i64 0, .int .i64 0, .int .i64 0] 64)) := heap_alloc_new _ _
        obtain ⟨W2, eW⟩ : ∃ X, X = (W1.alloc (.cells #[.pointer none, .int .i64 0, .int .i64 0, .int .i64 0] 64)).setRow W1.heap.size #[.pointer (some ⟨lv.b, lv.o, none⟩), .int .i64 lv.a.1, .int .i64 lv.a.2, .int .i64 (lv.i : Int)] := ⟨_, rfl⟩
        have hb9 : Below W1.heap.size W1 W2 := (by rw [eW]; exact ((Below.refl _ _).alloc (Nat.le_refl _) _).grown (grown_setRow _ _ _) (by simp) (fun k e => by cases e; exact Nat.le_refl _))
        obtain ⟨pb, enb⟩ : ∃ b, b = W1.heap.size := ⟨_, rfl⟩
        have Hpb : Hid (W2.heap[pb]? = some (.cells #[.pointer (some ⟨lv.b, lv.o, none⟩), .int .i64 lv.a.1, .int .i64 lv.a.2, .int .i64 (lv.i : Int)] 64)) := (by show _ = _; rw [eW, enb]; exact setRow_same Hz.out)
        have HE9 := hide9 (And.intro eW enb)
        clear eW enb
        replace HS := hide9 (HS.out.below hb9)
        replace Hxb := hide9 ((hb9.block _ (row_lt Hxb.out)).trans Hxb.out)
        clear hb9
        go_wp2_with (refine wpList_store_row rfl 64 (.tmp 10) (.tmp 31) rfl W1.heap.size 64 #[.pointer none, .int .i64 0, .int .i64 0, .int .i64 0] #[.pointer (some ⟨lv.b, lv.o, none⟩), .int .i64 lv.a.1, .int .i64 lv.a.2, .int .i64 (lv.i : Int)] rfl rfl Hz.out sizeSp rfl (by simp [Value.oneCell']) ?_; refine StpD.to ?_)
        refine StpD.of ?_
        rw [← HE9.out.1, ← HE9.out.2]
        clear HE9 Hz
        clear y0 y1 y2 y3 y4 y5 hlk1
        obtain ⟨y0, y1, y2, y3, y4, y5⟩ := row6d Hxb.out
        have hlk2 := look_set HS.out.m x.k
        rw [← Hiz.out] at hlk2
        have Hz : Hid ((W2.alloc (.cells #[] 89)).heap[W2.heap.size]? = some (.cells #[] 89)) := heap_alloc_new _ _
        obtain ⟨W3, eW⟩ : ∃ X, X = (W2.alloc (.cells #[] 89)).setRow W2.heap.size #[] := ⟨_, rfl⟩
        have hb9 : Below W2.heap.size W2 W3 := (by rw [eW]; exact ((Below.refl _ _).alloc (Nat.le_refl _) _).grown (grown_setRow _ _ _) (by simp) (fun k e => by cases e; exact Nat.le_refl _))
        obtain ⟨ub, enb⟩ : ∃ b, b = W2.heap.size := ⟨_, rfl⟩
        have Hub : Hid (W3.heap[ub]? = some (.cells #[] 89)) := (by show _ = _; rw [eW, enb]; exact setRow_same Hz.out)
        have HE9 := hide9 (And.intro eW enb)
        clear eW enb
        replace HS := hide9 (HS.out.below hb9)
        replace Hxb := hide9 ((hb9.block _ (row_lt Hxb.out)).trans Hxb.out)
        replace Hpb := hide9 ((hb9.block _ (row_lt Hpb.out)).trans Hpb.out)
        clear hb9
        go_wp2_with (refine wpList_store_row rfl 89 (.tmp 12) (.tmp 38) rfl W2.heap.size 89 #[] #[] rfl rfl Hz.out sizeUni rfl (by simp [Value.oneCell']) ?_; refine StpD.to ?_)
        refine StpD.of ?_
        rw [← HE9.out.1, ← HE9.out.2]
        clear HE9 Hz
        clear y0 y1 y2 y3 y4 y5 hlk2 Hub
        have HSb0 := Hpb
        have HKl : Hid (nb < W3.heap.size ∧ W3.cell? ⟨nb, no, none⟩ = some (.int .i64 t.k.1) ∧ W3.cell? ⟨nb, no + 1, none⟩ = some (.int .i64 t.k.2)) := ⟨Nat.lt_of_lt_of_le Hkc.out.1 HS.out.bel.size, (HS.out.bel.cell (p := ⟨nb, no, none⟩) Hkc.out.1).trans Hkc.out.2.1, (HS.out.bel.cell (p := ⟨nb, no + 1, none⟩) Hkc.out.1).trans Hkc.out.2.2⟩
        clear Hpb
        obtain ⟨same, hsm⟩ : ∃ b : Bool, decide (lv.a = t.k) = b := ⟨_, rfl⟩
        have hq := fun w9 => neSt lv.a t.k same hsm w9
        go_upto_region 10 with fail
        cases same with
        | false =>
          have Hab : Hid (¬ lv.a = t.k) := hide9 (of_decide_eq_false hsm)
          clear hsm
          simp only [Bool.not_false] at hq
          refine wp_region_held_drew (S := fun W' => Below W3.heap.size W3 W') (by kernel_rfl) (Below.refl _ _).drew (fun hHeld => ?_)
          obtain ⟨Ut02u0, eW⟩ : ∃ X, X = W3.drew := ⟨_, rfl⟩
          have hb : Below W3.heap.size W3 Ut02u0 := by rw [eW]; exact (Below.refl _ _).drew
          replace HS : Hid (PlS w ab sb L (s) (.slice va R.length vc) (R) Ut02u0) := HS.out.below hb
          replace Hxb : Hid (Ut02u0.heap[xb]? = some (.cells #[.int .i64 x.k.1, .int .i64 x.k.2, .string x.tg, .string x.tx, .slice xa x.at_.length cx, .slice xk x.ks.length dx] 27)) := (hb.block _ (row_lt Hxb.out)).trans Hxb.out
          rw [← eW] at hHeld ⊢
          clear eW hb
          refine tkW 0 (some 44) (v := ?_) ?_ hHeld ?_
          rotate_left
          · (intro ww _; go_simp; try with_reducible rfl)
          refine tkW 1 (some 45) (v := ?_) ?_ hHeld ?_
          rotate_left
          · (intro ww hSw; (try dsimp only at hSw); obtain ⟨z0, z1, z2, z3⟩ := row4 ((hSw.block _ (row_lt HSb0.out)).trans HSb0.out); go_simp; try with_reducible rfl)
          refine tkW 2 (some 46) (v := ?_) ?_ hHeld ?_
          rotate_left
          · (intro ww _; go_simp; try with_reducible rfl)
          refine tkW 3 (some 47) (v := ?_) ?_ hHeld ?_
          rotate_left
          · (intro ww hSw; (try dsimp only at hSw); go_simp; try with_reducible rfl)
          refine tkW 4 (some 48) (v := ?_) ?_ hHeld ?_
          rotate_left
          · (intro ww _; go_simp; try with_reducible rfl)
          refine tkW 5 (some 49) (v := ?_) ?_ hHeld ?_
          rotate_left
          · (intro ww hSw; (try dsimp only at hSw); have q6 : ww.cell? ⟨nb, no, none⟩ = some (.int .i64 t.k.1) := (hSw.cell (p := ⟨nb, no, none⟩) HKl.out.1).trans HKl.out.2.1; have q7 : ww.cell? ⟨nb, no + 1, none⟩ = some (.int .i64 t.k.2) := (hSw.cell (p := ⟨nb, no + 1, none⟩) HKl.out.1).trans HKl.out.2.2; go_simp; try with_reducible rfl)
          refine tkW 6 (some 50) (v := ?_) ?_ hHeld ?_
          rotate_left
          · (intro ww hSw; (try dsimp only at hSw); go_simp; try with_reducible rfl)
          refine tkW 7 (some 43) (v := ?_) ?_ hHeld ?_
          rotate_left
          · (intro ww _; go_simp; try with_reducible rfl)
          refine wpAnyH_done (by kernel_rfl) ?_ _
          clear hHeld hq HSb0 HKl
          go_upto_region 13 with fail
          have HS0 : Hid (PlS w ab sb L (s) (.slice va R.length vc) (R) Ut02u0) := HS
          have Hx0 : Hid (Ut02u0.heap[xb]? = some (.cells #[.int .i64 x.k.1, .int .i64 x.k.2, .string x.tg, .string x.tx, .slice xa x.at_.length cx, .slice xk x.ks.length dx] 27)) := Hxb
          have HKl : Hid (Ut02u0.cell? ⟨nb, no, none⟩ = some (.int .i64 t.k.1) ∧ Ut02u0.cell? ⟨nb, no + 1, none⟩ = some (.int .i64 t.k.2)) := ⟨(HS.out.bel.cell (p := ⟨nb, no, none⟩) Hkc.out.1).trans Hkc.out.2.1, (HS.out.bel.cell (p := ⟨nb, no + 1, none⟩) Hkc.out.1).trans Hkc.out.2.2⟩
          refine wp_region_held_drew (S := fun W' => KeepsS (fun j => j < w.heap.size ∨ j = xb ∨ j = ab) Ut02u0 W') (by kernel_rfl) (KeepsS.of_below (Below.refl Ut02u0.heap.size Ut02u0).drew (fun j q => by rcases q with q | rfl | rfl; exact Nat.lt_of_lt_of_le q HS0.out.bel.size; exact row_lt Hx0.out; exact row_lt HS0.out.a)) (fun hHeld => ?_)
          obtain ⟨Us13u0, eW⟩ : ∃ X, X = Ut02u0.drew := ⟨_, rfl⟩
          have hb : Below Ut02u0.heap.size Ut02u0 Us13u0 := by rw [eW]; exact (Below.refl _ _).drew
          replace HS : Hid (PlS w ab sb L (s) (.slice va R.length vc) (R) Us13u0) := HS.out.below hb
          replace Hxb : Hid (Us13u0.heap[xb]? = some (.cells #[.int .i64 x.k.1, .int .i64 x.k.2, .string x.tg, .string x.tx, .slice xa x.at_.length cx, .slice xk x.ks.length dx] 27)) := (hb.block _ (row_lt Hxb.out)).trans Hxb.out
          rw [← eW] at hHeld ⊢
          clear eW hb
          refine tkW 0 (some 61) (v := ?_) ?_ hHeld ?_
          rotate_left
          · (intro ww _; go_simp; try with_reducible rfl)
          refine tkW 1 (some 62) (v := ?_) ?_ hHeld ?_
          rotate_left
          · (intro ww _; go_simp; try with_reducible rfl)
          refine tkW 2 (some 63) (v := ?_) ?_ hHeld ?_
          rotate_left
          · (intro ww hSw; (try dsimp only at hSw); obtain ⟨y0, y1, y2, y3, y4, y5⟩ := row6d ((hSw.2 xb (.inr (.inl rfl))).trans Hx0.out); go_simp; try with_reducible rfl)
          refine tkW 3 (some 64) (v := ?_) ?_ hHeld ?_
          rotate_left
          · (intro ww _; go_simp; try with_reducible rfl)
          refine tkW 4 (some 65) (v := ?_) ?_ hHeld ?_
          rotate_left
          · (intro ww hSw; (try dsimp only at hSw); go_simp; try with_reducible rfl)
          refine tkW 5 (some 66) (v := ?_) ?_ hHeld ?_
          rotate_left
          · (intro ww _; go_simp; try with_reducible rfl)
          refine tkW 6 (some 67) (v := ?_) ?_ hHeld ?_
          rotate_left
          · (intro ww hSw; (try dsimp only at hSw); have q6 : ww.cell? ⟨nb, no, none⟩ = some (.int .i64 t.k.1) := (hSw.cell (p := ⟨nb, no, none⟩) (.inl Hkc.out.1)).trans HKl.out.1; have q7 : ww.cell? ⟨nb, no + 1, none⟩ = some (.int .i64 t.k.2) := (hSw.cell (p := ⟨nb, no + 1, none⟩) (.inl Hkc.out.1)).trans HKl.out.2; go_simp; try with_reducible rfl)
          refine tkW 7 (some 68) (v := ?_) ?_ hHeld ?_
          rotate_left
          · (intro ww hSw; (try dsimp only at hSw); obtain ⟨y0, y1⟩ := row2d ((hSw.2 ab (.inr (.inr rfl))).trans HS0.out.a); go_simp; try with_reducible rfl)
          refine tkW 8 (some 69) (v := ?_) ?_ hHeld ?_
          rotate_left
          · (intro ww hSw; (try dsimp only at hSw); go_simp; try with_reducible rfl)
          refine wpAnyH_ready (rs := [9]) (by kernel_rfl) (by simp) ?_
          refine AllReadyH.cons (o := ⟨some 70, _, _, _, _, _⟩) rfl (fun K hK => ?_) AllReadyH.nil
          have hbx : Below Us13u0.heap.size Us13u0 (Us13u0.alloc (.cells #[.int .i64 4, .int .i64 x.k.1, .int .i64 x.k.2, .int .i64 t.k.1, .int .i64 t.k.2, .int .i64 s.1, .int .i64 s.2, .string ⟨#[]⟩, .string ⟨#[]⟩] 45)) := (Below.refl _ _).alloc (Nat.le_refl _) _
          go_simp
          refine hK.out _ _ (hHeld.trans (KeepsS.of_below hbx (fun j q => by rcases q with q | rfl | rfl; exact Nat.lt_of_lt_of_le q HS.out.bel.size; exact row_lt Hxb.out; exact row_lt HS.out.a))) (fun hHeld2 => ?_)
          clear hK K hHeld
          have hHeld := hHeld2
          clear hHeld2
          (try simp only [Act.put, List.setIfInBounds_toArray, List.set_cons_zero, List.set_cons_succ])
          obtain ⟨Us13u1, eW⟩ : ∃ X, X = Us13u0.alloc (.cells #[.int .i64 4, .int .i64 x.k.1, .int .i64 x.k.2, .int .i64 t.k.1, .int .i64 t.k.2, .int .i64 s.1, .int .i64 s.2, .string ⟨#[]⟩, .string ⟨#[]⟩] 45) := ⟨_, rfl⟩
          have hb : Below Us13u0.heap.size Us13u0 Us13u1 := by rw [eW]; exact (Below.refl _ _).alloc (Nat.le_refl _) _
          replace HS : Hid (PlS w ab sb L (s) (.slice va R.length vc) (R) Us13u1) := HS.out.below hb
          replace Hxb : Hid (Us13u1.heap[xb]? = some (.cells #[.int .i64 x.k.1, .int .i64 x.k.2, .string x.tg, .string x.tx, .slice xa x.at_.length cx, .slice xk x.ks.length dx] 27)) := (hb.block _ (row_lt Hxb.out)).trans Hxb.out
          clear hbx
          have HVb : Hid (Us13u1.heap[Us13u0.heap.size]? = some (.cells (paCells (pP x.k t.k s)).toArray 45)) := by rw [eW]; exact heap_alloc_new _ _
          rw [← eW] at hHeld ⊢
          clear eW
          obtain ⟨qb, eqb⟩ : ∃ b, b = Us13u0.heap.size := ⟨_, rfl⟩
          rw [← eqb] at HVb ⊢
          clear eqb
          clear hb
          refine wpAnyH_ready (rs := [10]) (by kernel_rfl) (by simp) ?_
          refine AllReadyH.cons (o := ⟨some 71, _, _, _, _, _⟩) rfl (fun K hK => ?_) AllReadyH.nil
          refine step_app1 rfl _ _ (by rfl) w.heap.size (.slice va R.length vc) (R) (by rfl) HS.out.ow qb (pP x.k t.k s) (by rfl) HVb.out (by have := Hll.out; (try simp only [List.length_append, List.length_cons, List.length_nil]); omega) HS.out.bel.size ?_
          intro g3 c3 Us13u2 ho3 hg3
          have h1 := HS.out.push hg3 ho3
          have hkp : KeepsS (fun j => j < w.heap.size ∨ j = xb ∨ j = ab) Ut02u0 Us13u2 := hHeld.trans ⟨hg3.size, fun j q => by rcases q with q | rfl | rfl; exact hg3.block j (Nat.lt_of_lt_of_le q HS.out.bel.size) (fun e => by have := (OwnE.lt HS.out.ow j e.symm).1; omega); exact hg3.block _ (row_lt Hxb.out) (HS.out.ne Hxb.out (by decide)).2; exact hg3.block _ (row_lt HS.out.a) (HS.out.ne HS.out.a (by decide)).2⟩
          replace Hxb := hide9 ((hg3.block _ (row_lt Hxb.out) (HS.out.ne Hxb.out (by decide)).2).trans Hxb.out)
          have HS2 := hide9 h1
          clear h1 ho3 hg3
          refine hK.out _ _ (hkp) (fun hHeld2 => ?_)
          clear hK K hHeld
          have hHeld := hHeld2
          clear hHeld2
          (try simp only [Act.put, List.setIfInBounds_toArray, List.set_cons_zero, List.set_cons_succ])
          clear hkp HS HVb
          refine tkW 11 (some 6) (v := ?_) ?_ hHeld ?_
          rotate_left
          · (intro ww _; go_simp; try with_reducible rfl)
          refine wpAnyH_done (by kernel_rfl) ?_ _
          clear hHeld HS0 Hx0 HKl
          have HS := HS2
          clear HS2
          obtain ⟨y0, y1, y2, y3, y4, y5⟩ := row6d Hxb.out
          go_wp2_with (refine wpList_store_row rfl 23 (.tmp 7) (.tmp 80) rfl ab 23 #[.int .i64 s.1, .int .i64 s.2] #[.int .i64 x.k.1, .int .i64 x.k.2] rfl rfl HS.out.a sizeStamp rfl (by simp [Value.oneCell']) ?_; refine StpD.to ?_)
          refine StpD.of ?_
          have HS9 := hide9 (HS.out.set x.k)
          obtain ⟨W9, eW9⟩ : ∃ X, X = Us13u2.setRow ab #[.int .i64 x.k.1, .int .i64 x.k.2] := ⟨_, rfl⟩
          rw [← eW9] at HS9 ⊢
          clear eW9 y0 y1 y2 y3 y4 y5 HS Hxb
          go_wp2
          go_roundw
          case rel => exact ⟨i + 1, _, x.k, by go_num, by omega, HS9, (by show _ ∧ _; rw [Htk.out, plL_snoc, lstK_snoc, ← HE.out.1, ← HE.out.2]; exact ⟨by unfold plK; rw [Hbb.out]; simp only [if_true, if_neg Hab.out], rfl⟩)⟩
          case measure => simp [intOf]; omega
        | true =>
          have Hab : Hid (lv.a = t.k) := hide9 (of_decide_eq_true hsm)
          clear hsm
          simp only [Bool.not_true] at hq
          refine wp_region_held_drew (S := fun W' => Below W3.heap.size W3 W') (by kernel_rfl) (Below.refl _ _).drew (fun hHeld => ?_)
          obtain ⟨Ut14u0, eW⟩ : ∃ X, X = W3.drew := ⟨_, rfl⟩
          have hb : Below W3.heap.size W3 Ut14u0 := by rw [eW]; exact (Below.refl _ _).drew
          replace HS : Hid (PlS w ab sb L (s) (.slice va R.length vc) (R) Ut14u0) := HS.out.below hb
          replace Hxb : Hid (Ut14u0.heap[xb]? = some (.cells #[.int .i64 x.k.1, .int .i64 x.k.2, .string x.tg, .string x.tx, .slice xa x.at_.length cx, .slice xk x.ks.length dx] 27)) := (hb.block _ (row_lt Hxb.out)).trans Hxb.out
          rw [← eW] at hHeld ⊢
          clear eW hb
          refine tkW 0 (some 44) (v := ?_) ?_ hHeld ?_
          rotate_left
          · (intro ww _; go_simp; try with_reducible rfl)
          refine tkW 1 (some 45) (v := ?_) ?_ hHeld ?_
          rotate_left
          · (intro ww hSw; (try dsimp only at hSw); obtain ⟨z0, z1, z2, z3⟩ := row4 ((hSw.block _ (row_lt HSb0.out)).trans HSb0.out); go_simp; try with_reducible rfl)
          refine tkW 2 (some 46) (v := ?_) ?_ hHeld ?_
          rotate_left
          · (intro ww _; go_simp; try with_reducible rfl)
          refine tkW 3 (some 47) (v := ?_) ?_ hHeld ?_
          rotate_left
          · (intro ww hSw; (try dsimp only at hSw); go_simp; try with_reducible rfl)
          refine tkW 4 (some 48) (v := ?_) ?_ hHeld ?_
          rotate_left
          · (intro ww _; go_simp; try with_reducible rfl)
          refine tkW 5 (some 49) (v := ?_) ?_ hHeld ?_
          rotate_left
          · (intro ww hSw; (try dsimp only at hSw); have q6 : ww.cell? ⟨nb, no, none⟩ = some (.int .i64 t.k.1) := (hSw.cell (p := ⟨nb, no, none⟩) HKl.out.1).trans HKl.out.2.1; have q7 : ww.cell? ⟨nb, no + 1, none⟩ = some (.int .i64 t.k.2) := (hSw.cell (p := ⟨nb, no + 1, none⟩) HKl.out.1).trans HKl.out.2.2; go_simp; try with_reducible rfl)
          refine tkW 6 (some 50) (v := ?_) ?_ hHeld ?_
          rotate_left
          · (intro ww hSw; (try dsimp only at hSw); go_simp; try with_reducible rfl)
          refine tkW 7 (some 43) (v := ?_) ?_ hHeld ?_
          rotate_left
          · (intro ww _; go_simp; try with_reducible rfl)
          refine wpAnyH_done (by kernel_rfl) ?_ _
          clear hHeld hq HSb0 HKl
          cases iz with
          | true =>
            obtain ⟨y0, y1, y2, y3, y4, y5⟩ := row6d Hxb.out
            obtain ⟨z0, z1⟩ := row2d HS.out.a
            go_wp2_with (at_builtin; refine StpD.to ?_)
            refine StpD.of ?_
            clear y0 y1 y2 y3 y4 y5 z0 z1
            obtain ⟨W4, eWa⟩ : ∃ X, X = Ut14u0.alloc (.cells #[.int .i64 5, .int .i64 x.k.1, .int .i64 x.k.2, .int .i64 0, .int .i64 0, .int .i64 s.1, .int .i64 s.2, .string ⟨#[]⟩, .string ⟨#[]⟩] 45) := ⟨_, rfl⟩
            have hq : W4.heap[Ut14u0.heap.size]? = some (.cells (paCells (pH x.k s)).toArray 45) := (by rw [eWa]; exact heap_alloc_new _ _)
            have hb4 : Below Ut14u0.heap.size Ut14u0 W4 := (by rw [eWa]; exact (Below.refl _ _).alloc (Nat.le_refl _) _)
            rw [← eWa]
            replace HS := hide9 (HS.out.below hb4)
            replace Hxb := hide9 ((hb4.block _ (row_lt Hxb.out)).trans Hxb.out)
            clear eWa hb4
            refine wpList_app1 rfl _ _ rfl w.heap.size (.slice va R.length vc) (R) rfl HS.out.ow Ut14u0.heap.size (pH x.k s) rfl hq (Nat.le_trans Hll.out (by decide)) HS.out.bel.size ?_
            intro g4 c4 W5 ho hg
            replace Hxb := hide9 ((hg.block _ (row_lt Hxb.out) (HS.out.ne Hxb.out (by decide)).2).trans Hxb.out)
            replace HS := hide9 (HS.out.push hg ho)
            clear hq ho hg
            obtain ⟨y0, y1, y2, y3, y4, y5⟩ := row6d Hxb.out
            go_wp2_with (refine wpList_store_row rfl 23 (.tmp 7) (.tmp 80) rfl ab 23 #[.int .i64 s.1, .int .i64 s.2] #[.int .i64 x.k.1, .int .i64 x.k.2] rfl rfl HS.out.a sizeStamp rfl (by simp [Value.oneCell']) ?_; refine StpD.to ?_)
            refine StpD.of ?_
            have HS9 := hide9 (HS.out.set x.k)
            obtain ⟨W9, eW9⟩ : ∃ X, X = W5.setRow ab #[.int .i64 x.k.1, .int .i64 x.k.2] := ⟨_, rfl⟩
            rw [← eW9] at HS9 ⊢
            clear eW9 y0 y1 y2 y3 y4 y5 HS Hxb
            go_wp2
            go_roundw
            case rel => exact ⟨i + 1, _, x.k, by go_num, by omega, HS9, (by show _ ∧ _; rw [Htk.out, plL_snoc, lstK_snoc, ← HE.out.1, ← HE.out.2]; exact ⟨by unfold plK; rw [Hbb.out]; simp only [if_true, if_pos Hab.out, if_pos (of_decide_eq_true Hiz.out.symm)], rfl⟩)⟩
            case measure => simp [intOf]; omega
          | false =>
            obtain ⟨y0, y1, y2, y3, y4, y5⟩ := row6d Hxb.out
            go_wp2_with (refine wpList_store_row rfl 23 (.tmp 7) (.tmp 80) rfl ab 23 #[.int .i64 s.1, .int .i64 s.2] #[.int .i64 x.k.1, .int .i64 x.k.2] rfl rfl HS.out.a sizeStamp rfl (by simp [Value.oneCell']) ?_; refine StpD.to ?_)
            refine StpD.of ?_
            have HS9 := hide9 (HS.out.set x.k)
            obtain ⟨W9, eW9⟩ : ∃ X, X = Ut14u0.setRow ab #[.int .i64 x.k.1, .int .i64 x.k.2] := ⟨_, rfl⟩
            rw [← eW9] at HS9 ⊢
            clear eW9 y0 y1 y2 y3 y4 y5 HS Hxb
            go_wp2
            go_roundw
            case rel => exact ⟨i + 1, _, x.k, by go_num, by omega, HS9, (by show _ ∧ _; rw [Htk.out, plL_snoc, lstK_snoc, ← HE.out.1, ← HE.out.2]; exact ⟨by unfold plK; rw [Hbb.out]; simp only [if_true, if_pos Hab.out, if_neg (of_decide_eq_false Hiz.out.symm), List.append_nil], rfl⟩)⟩
            case measure => simp [intOf]; omega
    · have ei : i = t.ks.length := by omega
      subst ei
      have k1 : ¬ (t.ks.length : Int) < (t.ks.length : Int) := by omega
      rw [List.take_length] at HE
      have hR := HE.out.1
      rw [plL_eq HL.out] at hR
      have HR := hide9 hR
      clear hR
      go_wp2
      (try rw [Exit.noGoto_ret])
      go_ret
      exact ⟨_, rfl, (by rw [← HR.out]; exact HS.out.ow), HS.out.bel⟩
end Go.Proofs.Ythhnglpkfcmjiaa
