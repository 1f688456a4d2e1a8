/- shifted: which kids of a node are shifted. -/
import Derived.Test.YthhnglpkfcmjiaaKDiW
import Derived.Test.YthhnglpkfcmjiaaKLiE
import Derived.Test.YthhnglpkfcmjiaaKVtE
namespace Go.Proofs.Ythhnglpkfcmjiaa
open Go.RowKit Go.Shelf
set_option linter.unusedVariables false
set_option linter.unusedSimpArgs false
attribute [local go_sem] Oper.semAt_some
def intCells (x : Int) : List Value := [.int .i64 x]
theorem flat_int : ∀ D : List Int, flatE intCells D = cellsI D
  | [] => rfl
  | x :: r => by rw [flatE_cons, flat_int r]; rfl
/-- Kids that have stayed, and their places. -/
def stL (D : List Sd) (p : St) (l : List VT) : List (St × Int) := l.filterMap fun x => match getP skU D x.k with | some y => if y.a = p then some (x.k, (y.i : Int)) else none | none => none
theorem stL_snoc (D : List Sd) (p : St) (l : List VT) (x : VT) : stL D p (l ++ [x]) = stL D p l ++ (match getP skU D x.k with | some y => if y.a = p then [(x.k, (y.i : Int))] else [] | none => []) := by
  unfold stL
  rw [List.filterMap_append]
  congr 1
  cases h : getP skU D x.k with
  | none => simp [h]
  | some y => by_cases e : y.a = p <;> simp [h, e]
theorem stL_len (D : List Sd) (p : St) (l : List VT) : (stL D p l).length ≤ l.length := by unfold stL; exact List.length_filterMap_le _ _
/-- The keys of those that are shifted. -/
def shL (D : List Sd) (t : VT) : List St := (othL ((stL D t.k t.ks).map Prod.snd)).map fun i => ((stL D t.k t.ks).map Prod.fst).getD i.toNat (0, 0)
theorem infoInt9 : (Try.prog.info? 3).map (fun i => (i.zero, i.size, i.bytes)) = some (some (.int .i64 0), 1, 8) := by kernel_rfl
theorem infoSt9 : (Try.prog.info? 23).map (fun i => (i.zero, i.size, i.bytes)) = some (some (.agg #[.int .i64 0, .int .i64 0]), 2, 16) := by kernel_rfl
theorem sizeVy : (Try.prog.info? 27).map (·.size) = some 6 := by kernel_rfl
theorem wpList_app1E {α : Type} {enc : α → List Value} {n : Nat} (hn : ∀ x, (enc x).length = n) {T TS : TypeId} {i0 : TypeInfo} {z : Value} {bytes : Nat} (hu : Try.prog.underlying TS = some (.slice T)) (hi : Try.prog.info? T = some i0) (hz0 : i0.zero = some z) (hz1 : i0.size = n) (hz2 : i0.bytes = bytes) (hzs : z.cells.size = n) (hpos : 0 < n) (hby : bytes ≤ 128)
    {ops : Array Oper} {rest : List Oper} {o : Oper} {a : Act} {w : World} {Q : Exit → Act → World → Prop} (hgd : o.guard = none) (s x : Operand) (ho : o.op = .call { callee := .builtin .append, args := #[s, x], argTypes := #[TS, TS] }) (B : Nat) (v : Value) (R : List α) (hs : a.eval s = v) (hown : OwnE enc n T B w v R) (qb : Nat) (p : α) (hx : a.eval x = .slice (some ⟨qb, 0, none⟩) 1 1) (hq : w.heap[qb]? = some (.cells (enc p).toArray T)) (h1 : ∀ u ∈ enc p, u.oneCell' = true) (hl : R.length ≤ 1048576000) (hB : B ≤ w.heap.size)
    (h : ∀ g c w', OwnE enc n T B w' (.slice (some ⟨g, 0, none⟩) (R.length + 1) c) (R ++ [p]) → w.grownBy w' v.ownBlock → wpList Try.prog ops Q rest (a.put o.dst (.slice (some ⟨g, 0, none⟩) (R.length + 1) c)) w') :
    wpList Try.prog ops Q (o :: rest) a w :=
  wpList_append_lies w hgd s x TS ho B T i0 z n bytes hu hi hz0 hz1 hz2 hzs hpos v R.length (flatE enc R) hs hown ⟨qb, 0, none⟩ 1 1 (enc p) hx (by rw [hn, Nat.one_mul]) (World.news_of_block hq) h1 (by decide) (by unfold maxLen; omega) (by have := Nat.mul_le_mul (show R.length + 1 ≤ 1048576001 by omega) hby; omega) hB _ rfl fun g c w' h2 h3 _ _ => h g c w' (OwnE.snoc rfl h2) h3
/-- Two rows that grow: of stamps, and of numbers. -/
structure ShS (w : World) (sv : Value) (KL : List St) (pv : Value) (PL : List Int) (W : World) : Prop where
  a : OwnE stCells 2 23 w.heap.size W sv KL
  b : OwnE intCells 1 3 w.heap.size W pv PL
  bel : Below w.heap.size w W
section
variable {w W W' : World} {sv pv sv' pv' : Value} {KL KL' : List St} {PL PL' : List Int}
theorem ShS.below (h : ShS w sv KL pv PL W) (hb : Below W.heap.size W W') : ShS w sv KL pv PL W' := ⟨OwnE.below h.a hb, OwnE.below h.b hb, h.bel.trans (hb.mono h.bel.size)⟩
theorem ShS.ne (h : ShS w sv KL pv PL W) {k : Nat} (h1 : sv.ownBlock = some k) (h2 : pv.ownBlock = some k) : False := by
  obtain ⟨c1, e1⟩ := own_cellsE h.a h1
  obtain ⟨c2, e2⟩ := own_cellsE h.b h2
  rw [e1] at e2
  injection e2 with e2
  injection e2 with _ e2 _
  exact absurd e2 (by decide)
theorem ShS.pushA (h : ShS w sv KL pv PL W) (hg : W.grownBy W' sv.ownBlock) (ho : OwnE stCells 2 23 w.heap.size W' sv' KL') : ShS w sv' KL' pv PL W' := ⟨ho, OwnE.keep h.b fun k e => hg.block k (OwnE.lt h.b k e).2 (fun e2 => h.ne e2.symm e), h.bel.grown hg h.bel.size (fun k e => (OwnE.lt h.a k e).1)⟩
theorem ShS.pushB (h : ShS w sv KL pv PL W) (hg : W.grownBy W' pv.ownBlock) (ho : OwnE intCells 1 3 w.heap.size W' pv' PL') : ShS w sv KL pv' PL' W' := ⟨OwnE.keep h.a fun k e => hg.block k (OwnE.lt h.a k e).2 (fun e2 => h.ne e e2.symm), ho, h.bel.grown hg h.bel.size (fun k e => (OwnE.lt h.b k e).1)⟩
end
theorem look_sd2 {w : World} {mb : Nat} {D : List Sd} (h : MpS w mb D) (s : St) : ∃ (lv : Sd) (lb : Bool), (∀ W9, W9.heap[mb]? = w.heap[mb]? → (Instr.lookup 56 (.map (some mb)) (.agg #[.int .i64 s.1, .int .i64 s.2]) true).run Try.prog W9 = .ok (.tuple #[.agg (if lb then #[.pointer (some ⟨lv.b, lv.o, none⟩), .int .i64 lv.a.1, .int .i64 lv.a.2, .int .i64 (lv.i : Int)] else #[.pointer none, .int .i64 0, .int .i64 0, .int .i64 0]), .bool lb]) W9) ∧ getP skU D s = (if lb then some lv else none) := by
  cases hg : getP skU D s with
  | none => exact ⟨⟨(0, 0), 0, 0, 0, .node (0, 0) ⟨#[]⟩ ⟨#[]⟩ [] []⟩, false, fun W9 e => (look_st 56 64 (.agg #[.pointer none, .int .i64 0, .int .i64 0, .int .i64 0]) uSpk zSpk (h.keep e) s).trans (by rw [hg]; rfl), rfl⟩
  | some y => exact ⟨y, true, fun W9 e => (look_st 56 64 (.agg #[.pointer none, .int .i64 0, .int .i64 0, .int .i64 0]) uSpk zSpk (h.keep e) s).trans (by rw [hg]; rfl), rfl⟩
theorem row6d {W : World} {b : Nat} {x0 x1 x2 x3 x4 x5 : Value} {ty : TypeId} (h : W.heap[b]? = some (.cells #[x0, x1, x2, x3, x4, x5] ty)) : W.cell? ⟨b, 0, none⟩ = some x0 ∧ W.cell? ⟨b, 1, none⟩ = some x1 ∧ W.cell? ⟨b, 2, none⟩ = some x2 ∧ W.cell? ⟨b, 3, none⟩ = some x3 ∧ W.cell? ⟨b, 4, none⟩ = some x4 ∧ W.cell? ⟨b, 5, none⟩ = some x5 := by
  refine ⟨?_, ?_, ?_, ?_, ?_, ?_⟩ <;> (rw [cell_of_row W b _ _ _ _ h]; rfl)
theorem stOne (s : St) : ∀ u ∈ stCells s, u.oneCell' = true := fun u hu => by
  simp [stCells] at hu
  rcases hu with rfl | rfl <;> rfl
theorem intOne (x : Int) : ∀ u ∈ intCells x, u.oneCell' = true := fun u hu => by
  simp [intCells] at hu
  subst hu
  rfl
theorem stL_take {D : List Sd} {t : VT} {i : Nat} (h : i < t.ks.length) : stL D t.k (t.ks.take (i + 1)) = stL D t.k (t.ks.take i) ++ (match getP skU D t.ks[i].k with | some y => if y.a = t.k then [(t.ks[i].k, (y.i : Int))] else [] | none => []) := by
  rw [List.take_succ_eq_append_getElem h, stL_snoc]
theorem oth_at : ∀ (P : List Int) (f i : Nat), ∀ p ∈ oth P f i, ∃ m : Nat, p = (m : Int) ∧ m < i + f
  | _, 0, _, p, h => by simp [oth] at h
  | [], f + 1, i, p, h => by
    simp only [oth] at h
    rcases List.mem_cons.1 h with rfl | h
    · exact ⟨i, rfl, by omega⟩
    · obtain ⟨m, e, hm⟩ := oth_at [] f (i + 1) p h
      exact ⟨m, e, by omega⟩
  | q :: t, f + 1, i, p, h => by
    simp only [oth] at h
    split at h
    · obtain ⟨m, e, hm⟩ := oth_at t f (i + 1) p h
      exact ⟨m, e, by omega⟩
    · rcases List.mem_cons.1 h with rfl | h
      · exact ⟨i, rfl, by omega⟩
      · obtain ⟨m, e, hm⟩ := oth_at (q :: t) f (i + 1) p h
        exact ⟨m, e, by omega⟩
theorem put_st {L : List St} {y : St} {P : List St → Prop} (hn : L.Nodup) (h : (getP id L y = none ∧ P (L ++ [y])) ∨ ∃ x j, getP id L y = some x ∧ L[j]? = some x ∧ P (L.set j y)) : ∃ L', P L' ∧ L'.Nodup ∧ ∀ s, s ∈ L' ↔ s ∈ L ∨ s = y := by
  rcases h with ⟨h1, h2⟩ | ⟨x, j, h1, h2, h3⟩
  · refine ⟨_, h2, ?_, fun s => by simp⟩
    unfold getP at h1
    rw [List.find?_eq_none] at h1
    rw [List.nodup_append]
    exact ⟨hn, by simp, fun a ha b hb e => by have h9 := h1 a ha; simp at hb h9; exact h9 (e.trans hb)⟩
  · unfold getP at h1
    have hx : x = y := by simpa using List.find?_some h1
    subst hx
    have e : L.set j x = L := by
      refine List.ext_getElem? fun k => ?_
      rw [List.getElem?_set]
      by_cases hk : j = k
      · subst hk; rw [if_pos rfl, h2]; simp [(List.getElem?_eq_some_iff.1 h2).1]
      · rw [if_neg hk]
    rw [e] at h3
    exact ⟨L, h3, hn, fun s => ⟨.inl, fun q => q.elim id fun e => e ▸ List.mem_of_getElem? h2⟩⟩
set_option maxRecDepth 100000 in
set_option maxHeartbeats 8000000 in
theorem shifted_any (G : Nat → Prop) (D : List Sd) (mb nb no : Nat) (t : VT) (w : World) (hm : MpS w mb D) (hv : VAt G w t nb no) (hl : t.ks.length ≤ 1048576) :
    Calls Try.prog 40 #[.map (some mb), .pointer (some ⟨nb, no, none⟩)] w fun e w' => ∃ sb L, e = .returned (.map (some sb)) ∧ MapIs id kU w' sb L ∧ L.Nodup ∧ (∀ s, s ∈ L ↔ s ∈ shL D t) ∧ w.heap.size ≤ sb ∧ Below w.heap.size w w' := by
  obtain ⟨aa, ca, ak, ck, kc0, kc1, _, _, _, c5, f0⟩ := hv.cells
  have hkl := f0.ks.len
  have HS : Hid (ShS w (.slice none 0 0) ([]) (.slice none 0 0) ([]) w) := ⟨OwnE.nil0 _ _, OwnE.nil0 _ _, Below.refl _ _⟩
  have Hf : Hid (KsIs G w (.slice ak t.ks.length ck) t.ks) := f0.ks
  have Hkc : Hid (nb < w.heap.size ∧ w.cell? ⟨nb, no, none⟩ = some (.int .i64 t.k.1) ∧ w.cell? ⟨nb, no + 1, none⟩ = some (.int .i64 t.k.2)) := ⟨cell_lt (p := ⟨nb, no, none⟩) kc0, kc0, kc1⟩
  have Hm := hide9 hm
  have Hl := hide9 hl
  obtain ⟨i1, hi1, hy0, hy1, hy2⟩ := info_parts infoInt9
  obtain ⟨i2, hi2, hx0, hx1, hx2⟩ := info_parts infoSt9
  clear f0 hv hm hl kc0 kc1
  go_enter Try.func40, Try.ntmps40
  go_wp2
  clear c5
  go_loopw [5, 6, 19] (fun sv pv iv wr => ∃ (i : Nat) (KL : List St) (PL : List Int), iv = .int .i64 (i : Int) ∧ i ≤ t.ks.length ∧ Hid (ShS w sv (KL) pv (PL) wr) ∧ Hid (KL = (stL D t.k (t.ks.take i)).map Prod.fst ∧ PL = (stL D t.k (t.ks.take i)).map Prod.snd)) (fun _ _ iv _ => t.ks.length - (intOf iv).toNat)
  case atStart => exact ⟨0, [], [], rfl, Nat.zero_le _, HS, rfl, rfl⟩
  case round =>
    clear HS
    obtain ⟨i, KL, PL, rfl, hi, HS, HE⟩ := hrel
    obtain ⟨sa, sc, e1⟩ := OwnE.form HS.out.a
    obtain ⟨pa, pc, e2⟩ := OwnE.form HS.out.b
    subst e1 e2
    by_cases hlt : i < t.ks.length
    · obtain ⟨b1, o1, es, hg1, hl1, hv1⟩ := Hf.out.kid hlt
      subst es
      have htk := stL_take (D := D) hlt
      obtain ⟨x, ex⟩ : ∃ x, x = t.ks[i] := ⟨_, rfl⟩
      rw [← ex] at hv1 htk
      obtain ⟨xa, cx, xk, dx, p0, p1, p2, p3, p4, p5, _⟩ := hv1.cells
      have Htk := hide9 htk
      have hll : KL.length ≤ t.ks.length ∧ PL.length ≤ t.ks.length := (by rw [HE.out.1, HE.out.2, List.length_map, List.length_map]; have := stL_len D t.k (t.ks.take i); rw [List.length_take] at this; omega)
      have Hll : Hid (KL.length ≤ 1048576 ∧ PL.length ≤ 1048576) := ⟨by have := Hl.out; omega, by have := Hl.out; omega⟩
      have q0 := (HS.out.bel.cell (p := ⟨b1, o1 + i * 6, none⟩) hl1).trans p0
      have q1 := (HS.out.bel.cell (p := ⟨b1, o1 + i * 6 + 1, none⟩) hl1).trans p1
      have q2 := (HS.out.bel.cell (p := ⟨b1, o1 + i * 6 + 2, none⟩) hl1).trans p2
      have q3 := (HS.out.bel.cell (p := ⟨b1, o1 + i * 6 + 3, none⟩) hl1).trans p3
      have q4 := (HS.out.bel.cell (p := ⟨b1, o1 + i * 6 + 4, none⟩) hl1).trans p4
      have q5 := (HS.out.bel.cell (p := ⟨b1, o1 + i * 6 + 5, none⟩) hl1).trans p5
      have k1 : (i : Int) < (t.ks.length : Int) := by omega
      have k0 : (0 : Int) ≤ (i : Int) := by omega
      clear htk ex hv1 hg1 p0 p1 p2 p3 p4 p5 hll
      have Hz : Hid ((wr.alloc (.cells #[.int .i64 0, .int .i64 0, .string ⟨#[]⟩, .string ⟨#[]⟩, .slice none 0 0, .slice none 0 0] 27)).heap[wr.heap.size]? = some (.cells #[.int .i64 0, .int .i64 0, .string ⟨#[]⟩, .string ⟨#[]⟩, .slice none 0 0, .slice none 0 0] 27)) := heap_alloc_new _ _
      obtain ⟨W1, eW⟩ : ∃ X, X = (wr.alloc (.cells #[.int .i64 0, .int .i64 0, .string ⟨#[]⟩, .string ⟨#[]⟩, .slice none 0 0, .slice none 0 0] 27)).setRow wr.heap.size #[.int .i64 x.k.1, .int .i64 x.k.2, .string x.tg, .string x.tx, .slice xa x.at_.length cx, .slice xk x.ks.length dx] := ⟨_, rfl⟩
      have hb9 : Below wr.heap.size wr W1 := (by rw [eW]; exact ((Below.refl _ _).alloc (Nat.le_refl _) _).grown (grown_setRow _ _ _) (by simp) (fun k e => by cases e; exact Nat.le_refl _))
      obtain ⟨xb, enb⟩ : ∃ b, b = wr.heap.size := ⟨_, rfl⟩
      have Hxb : Hid (W1.heap[xb]? = some (.cells #[.int .i64 x.k.1, .int .i64 x.k.2, .string x.tg, .string x.tx, .slice xa x.at_.length cx, .slice xk x.ks.length dx] 27)) := (by show _ = _; rw [eW, enb]; exact setRow_same Hz.out)
      have HE9 := hide9 (And.intro eW enb)
      clear eW enb
      replace HS : Hid (ShS w (.slice sa KL.length sc) (KL) (.slice pa PL.length pc) (PL) W1) := HS.out.below hb9
      have HW1 : Hid (wr.heap.size ≤ W1.heap.size) := hb9.size
      clear hb9
      go_wp2_with (refine wpList_store_row rfl 27 (.tmp 8) (.tmp 22) rfl wr.heap.size 27 #[.int .i64 0, .int .i64 0, .string ⟨#[]⟩, .string ⟨#[]⟩, .slice none 0 0, .slice none 0 0] #[.int .i64 x.k.1, .int .i64 x.k.2, .string x.tg, .string x.tx, .slice xa x.at_.length cx, .slice xk x.ks.length dx] rfl rfl Hz.out sizeVy rfl (by simp [Value.oneCell']) ?_; refine StpD.to ?_)
      refine StpD.of ?_
      rw [← HE9.out.1, ← HE9.out.2]
      clear HE9 Hz
      clear q0 q1 q2 q3 q4 q5
      obtain ⟨lv, lb, hlk, hbb⟩ := look_sd2 Hm.out x.k
      have Hbb := hide9 hbb
      clear hbb
      have hlk1 := hlk W1 (HS.out.bel.block mb Hm.out.lt)
      clear hlk
      cases lb with
      | false =>
        simp only [Bool.false_eq_true, if_false] at hlk1
        obtain ⟨y0, y1, y2, y3, y4, y5⟩ := row6d Hxb.out
        have Hz : Hid ((W1.alloc (.cells #[.pointer none, .int .i64 0, .int .i64 0, .int .i64 0] 64)).heap[W1.heap.size]? = some (.cells #[.pointer none, .int .i64 0, .int .i64 0, .int .i64 0] 64)) := heap_alloc_new _ _
        obtain ⟨W2, eW⟩ : ∃ X, X = (W1.alloc (.cells #[.pointer none, .int .i64 0, .int .i64 0, .int .i64 0] 64)).setRow W1.heap.size #[.pointer none, .int .i64 0, .int .i64 0, .int .i64 0] := ⟨_, rfl⟩
        have hb9 : Below W1.heap.size W1 W2 := (by rw [eW]; exact ((Below.refl _ _).alloc (Nat.le_refl _) _).grown (grown_setRow _ _ _) (by simp) (fun k e => by cases e; exact Nat.le_refl _))
        obtain ⟨sb, enb⟩ : ∃ b, b = W1.heap.size := ⟨_, rfl⟩
        have Hsb : Hid (W2.heap[sb]? = some (.cells #[.pointer none, .int .i64 0, .int .i64 0, .int .i64 0] 64)) := (by show _ = _; rw [eW, enb]; exact setRow_same Hz.out)
        have HE9 := hide9 (And.intro eW enb)
        clear eW enb
        replace HS : Hid (ShS w (.slice sa KL.length sc) (KL) (.slice pa PL.length pc) (PL) W2) := HS.out.below hb9
        replace Hxb := hide9 ((hb9.block _ (row_lt Hxb.out)).trans Hxb.out)
        clear hb9
        go_wp2_with (refine wpList_store_row rfl 64 (.tmp 9) (.tmp 28) rfl W1.heap.size 64 #[.pointer none, .int .i64 0, .int .i64 0, .int .i64 0] #[.pointer none, .int .i64 0, .int .i64 0, .int .i64 0] rfl rfl Hz.out sizeSp rfl (by simp [Value.oneCell']) ?_; refine StpD.to ?_)
        refine StpD.of ?_
        rw [← HE9.out.1, ← HE9.out.2]
        clear HE9 Hz
        clear y0 y1 y2 y3 y4 y5 hlk1
        go_upto_region 7 with fail
        have HSb0 := Hsb
        have HKl : Hid (nb < W2.heap.size ∧ W2.cell? ⟨nb, no, none⟩ = some (.int .i64 t.k.1) ∧ W2.cell? ⟨nb, no + 1, none⟩ = some (.int .i64 t.k.2)) := ⟨Nat.lt_of_lt_of_le Hkc.out.1 HS.out.bel.size, (HS.out.bel.cell (p := ⟨nb, no, none⟩) Hkc.out.1).trans Hkc.out.2.1, (HS.out.bel.cell (p := ⟨nb, no + 1, none⟩) Hkc.out.1).trans Hkc.out.2.2⟩
        refine wp_region_held_drew (S := fun W' => Below W2.heap.size W2 W') (by kernel_rfl) (Below.refl _ _).drew (fun hHeld => ?_)
        obtain ⟨Us01u0, eW⟩ : ∃ X, X = W2.drew := ⟨_, rfl⟩
        have hb : Below W2.heap.size W2 Us01u0 := by rw [eW]; exact (Below.refl _ _).drew
        replace HS : Hid (ShS w (.slice sa KL.length sc) (KL) (.slice pa PL.length pc) (PL) Us01u0) := HS.out.below hb
        replace Hxb : Hid (Us01u0.heap[xb]? = some (.cells #[.int .i64 x.k.1, .int .i64 x.k.2, .string x.tg, .string x.tx, .slice xa x.at_.length cx, .slice xk x.ks.length dx] 27)) := (hb.block _ (row_lt Hxb.out)).trans Hxb.out
        replace Hsb : Hid (Us01u0.heap[sb]? = some (.cells #[.pointer none, .int .i64 0, .int .i64 0, .int .i64 0] 64)) := (hb.block _ (row_lt Hsb.out)).trans Hsb.out
        rw [← eW] at hHeld ⊢
        clear eW hb
        refine tkW 0 (some 30) (v := ?_) ?_ hHeld ?_
        rotate_left
        · (intro ww _; go_simp; try with_reducible rfl)
        refine tkW 1 (some 31) (v := ?_) ?_ hHeld ?_
        rotate_left
        · (intro ww _; go_simp; try with_reducible rfl)
        refine tkU 2 (some 32) hHeld ?_
        refine tkU 3 (some 33) hHeld ?_
        refine tkU 4 (some 34) hHeld ?_
        refine tkU 5 (some 35) hHeld ?_
        refine tkU 6 (some 36) hHeld ?_
        refine tkU 7 (some 37) hHeld ?_
        refine tkU 8 (some 38) hHeld ?_
        refine tkW 9 (some 39) (v := ?_) ?_ hHeld ?_
        rotate_left
        · (intro ww _; go_simp; try with_reducible rfl)
        refine wpAnyH_done (by kernel_rfl) ?_ _
        clear hHeld
        go_wp2
        go_roundw
        case rel => exact ⟨i + 1, _, _, by go_num, by omega, HS, (by show _ ∧ _; rw [Htk.out, Hbb.out]; simpa using HE.out)⟩
        case measure => simp [intOf]; omega
      | true =>
        simp only [if_true] at hlk1
        obtain ⟨y0, y1, y2, y3, y4, y5⟩ := row6d Hxb.out
        have Hz : Hid ((W1.alloc (.cells #[.pointer none, .int .i64 0, .int .i64 0, .int .i64 0] 64)).heap[W1.heap.size]? = some (.cells #[.pointer none, .int .i64 0, .int .i64 0, .int .i64 0] 64)) := heap_alloc_new _ _
        obtain ⟨W2, eW⟩ : ∃ X, X = (W1.alloc (.cells #[.pointer none, .int .i64 0, .int .i64 0, .int .i64 0] 64)).setRow W1.heap.size #[.pointer (some ⟨lv.b, lv.o, none⟩), .int .i64 lv.a.1, .int .i64 lv.a.2, .int .i64 (lv.i : Int)] := ⟨_, rfl⟩
        have hb9 : Below W1.heap.size W1 W2 := (by rw [eW]; exact ((Below.refl _ _).alloc (Nat.le_refl _) _).grown (grown_setRow _ _ _) (by simp) (fun k e => by cases e; exact Nat.le_refl _))
        obtain ⟨sb, enb⟩ : ∃ b, b = W1.heap.size := ⟨_, rfl⟩
        have Hsb : Hid (W2.heap[sb]? = some (.cells #[.pointer (some ⟨lv.b, lv.o, none⟩), .int .i64 lv.a.1, .int .i64 lv.a.2, .int .i64 (lv.i : Int)] 64)) := (by show _ = _; rw [eW, enb]; exact setRow_same Hz.out)
        have HE9 := hide9 (And.intro eW enb)
        clear eW enb
        replace HS : Hid (ShS w (.slice sa KL.length sc) (KL) (.slice pa PL.length pc) (PL) W2) := HS.out.below hb9
        replace Hxb := hide9 ((hb9.block _ (row_lt Hxb.out)).trans Hxb.out)
        clear hb9
        go_wp2_with (refine wpList_store_row rfl 64 (.tmp 9) (.tmp 28) rfl W1.heap.size 64 #[.pointer none, .int .i64 0, .int .i64 0, .int .i64 0] #[.pointer (some ⟨lv.b, lv.o, none⟩), .int .i64 lv.a.1, .int .i64 lv.a.2, .int .i64 (lv.i : Int)] rfl rfl Hz.out sizeSp rfl (by simp [Value.oneCell']) ?_; refine StpD.to ?_)
        refine StpD.of ?_
        rw [← HE9.out.1, ← HE9.out.2]
        clear HE9 Hz
        clear y0 y1 y2 y3 y4 y5 hlk1
        go_upto_region 7 with fail
        have HSb0 := Hsb
        have HKl : Hid (nb < W2.heap.size ∧ W2.cell? ⟨nb, no, none⟩ = some (.int .i64 t.k.1) ∧ W2.cell? ⟨nb, no + 1, none⟩ = some (.int .i64 t.k.2)) := ⟨Nat.lt_of_lt_of_le Hkc.out.1 HS.out.bel.size, (HS.out.bel.cell (p := ⟨nb, no, none⟩) Hkc.out.1).trans Hkc.out.2.1, (HS.out.bel.cell (p := ⟨nb, no + 1, none⟩) Hkc.out.1).trans Hkc.out.2.2⟩
        obtain ⟨ab, hab⟩ : ∃ b : Bool, decide ((lv.a.1, lv.a.2) = (t.k.1, t.k.2)) = b := ⟨_, rfl⟩
        have hq : ∀ w9 : World, (binOp .eql 23 (.agg #[.int .i64 lv.a.1, .int .i64 lv.a.2]) (.agg #[.int .i64 t.k.1, .int .i64 t.k.2])).run Try.prog w9 = .ok (.bool ab) w9 := fun w9 => by rw [eqlSt, hab]
        cases ab with
        | false =>
          have Hab : Hid (¬ lv.a = t.k) := (by intro e; have h9 := of_decide_eq_false hab; exact h9 (by rw [e]))
          clear hab
          refine wp_region_held_drew (S := fun W' => Below W2.heap.size W2 W') (by kernel_rfl) (Below.refl _ _).drew (fun hHeld => ?_)
          obtain ⟨Us102u0, eW⟩ : ∃ X, X = W2.drew := ⟨_, rfl⟩
          have hb : Below W2.heap.size W2 Us102u0 := by rw [eW]; exact (Below.refl _ _).drew
          replace HS : Hid (ShS w (.slice sa KL.length sc) (KL) (.slice pa PL.length pc) (PL) Us102u0) := HS.out.below hb
          replace Hxb : Hid (Us102u0.heap[xb]? = some (.cells #[.int .i64 x.k.1, .int .i64 x.k.2, .string x.tg, .string x.tx, .slice xa x.at_.length cx, .slice xk x.ks.length dx] 27)) := (hb.block _ (row_lt Hxb.out)).trans Hxb.out
          replace Hsb : Hid (Us102u0.heap[sb]? = some (.cells #[.pointer (some ⟨lv.b, lv.o, none⟩), .int .i64 lv.a.1, .int .i64 lv.a.2, .int .i64 (lv.i : Int)] 64)) := (hb.block _ (row_lt Hsb.out)).trans Hsb.out
          rw [← eW] at hHeld ⊢
          clear eW hb
          refine tkW 0 (some 30) (v := ?_) ?_ hHeld ?_
          rotate_left
          · (intro ww _; go_simp; try with_reducible rfl)
          refine tkW 1 (some 31) (v := ?_) ?_ hHeld ?_
          rotate_left
          · (intro ww _; go_simp; try with_reducible rfl)
          refine tkW 2 (some 32) (v := ?_) ?_ hHeld ?_
          rotate_left
          · (intro ww _; go_simp; try with_reducible rfl)
          refine tkW 3 (some 33) (v := ?_) ?_ hHeld ?_
          rotate_left
          · (intro ww hSw; (try dsimp only at hSw); obtain ⟨z0, z1, z2, z3⟩ := row4 ((hSw.block _ (row_lt HSb0.out)).trans HSb0.out); go_simp; try with_reducible rfl)
          refine tkW 4 (some 34) (v := ?_) ?_ hHeld ?_
          rotate_left
          · (intro ww _; go_simp; try with_reducible rfl)
          refine tkW 5 (some 35) (v := ?_) ?_ hHeld ?_
          rotate_left
          · (intro ww hSw; (try dsimp only at hSw); go_simp; try with_reducible rfl)
          refine tkW 6 (some 36) (v := ?_) ?_ hHeld ?_
          rotate_left
          · (intro ww _; go_simp; try with_reducible rfl)
          refine tkW 7 (some 37) (v := ?_) ?_ hHeld ?_
          rotate_left
          · (intro ww hSw; (try dsimp only at hSw); have q6 : ww.cell? ⟨nb, no, none⟩ = some (.int .i64 t.k.1) := (hSw.cell (p := ⟨nb, no, none⟩) HKl.out.1).trans HKl.out.2.1; have q7 : ww.cell? ⟨nb, no + 1, none⟩ = some (.int .i64 t.k.2) := (hSw.cell (p := ⟨nb, no + 1, none⟩) HKl.out.1).trans HKl.out.2.2; go_simp; try with_reducible rfl)
          refine tkW 8 (some 38) (v := ?_) ?_ hHeld ?_
          rotate_left
          · (intro ww hSw; (try dsimp only at hSw); go_simp; try with_reducible rfl)
          refine tkW 9 (some 39) (v := ?_) ?_ hHeld ?_
          rotate_left
          · (intro ww _; go_simp; try with_reducible rfl)
          refine wpAnyH_done (by kernel_rfl) ?_ _
          clear hq
          clear hHeld
          go_wp2
          go_roundw
          case rel => exact ⟨i + 1, _, _, by go_num, by omega, HS, (by show _ ∧ _; rw [Htk.out, Hbb.out]; simp only [if_true, if_neg Hab.out, List.append_nil]; exact HE.out)⟩
          case measure => simp [intOf]; omega
        | true =>
          have Hab : Hid (lv.a = t.k) := (by show _ = _; have h9 := of_decide_eq_true hab; exact Prod.ext (congrArg Prod.fst h9) (congrArg Prod.snd h9))
          clear hab
          refine wp_region_held_drew (S := fun W' => Below W2.heap.size W2 W') (by kernel_rfl) (Below.refl _ _).drew (fun hHeld => ?_)
          obtain ⟨Us113u0, eW⟩ : ∃ X, X = W2.drew := ⟨_, rfl⟩
          have hb : Below W2.heap.size W2 Us113u0 := by rw [eW]; exact (Below.refl _ _).drew
          replace HS : Hid (ShS w (.slice sa KL.length sc) (KL) (.slice pa PL.length pc) (PL) Us113u0) := HS.out.below hb
          replace Hxb : Hid (Us113u0.heap[xb]? = some (.cells #[.int .i64 x.k.1, .int .i64 x.k.2, .string x.tg, .string x.tx, .slice xa x.at_.length cx, .slice xk x.ks.length dx] 27)) := (hb.block _ (row_lt Hxb.out)).trans Hxb.out
          replace Hsb : Hid (Us113u0.heap[sb]? = some (.cells #[.pointer (some ⟨lv.b, lv.o, none⟩), .int .i64 lv.a.1, .int .i64 lv.a.2, .int .i64 (lv.i : Int)] 64)) := (hb.block _ (row_lt Hsb.out)).trans Hsb.out
          rw [← eW] at hHeld ⊢
          clear eW hb
          refine tkW 0 (some 30) (v := ?_) ?_ hHeld ?_
          rotate_left
          · (intro ww _; go_simp; try with_reducible rfl)
          refine tkW 1 (some 31) (v := ?_) ?_ hHeld ?_
          rotate_left
          · (intro ww _; go_simp; try with_reducible rfl)
          refine tkW 2 (some 32) (v := ?_) ?_ hHeld ?_
          rotate_left
          · (intro ww _; go_simp; try with_reducible rfl)
          refine tkW 3 (some 33) (v := ?_) ?_ hHeld ?_
          rotate_left
          · (intro ww hSw; (try dsimp only at hSw); obtain ⟨z0, z1, z2, z3⟩ := row4 ((hSw.block _ (row_lt HSb0.out)).trans HSb0.out); go_simp; try with_reducible rfl)
          refine tkW 4 (some 34) (v := ?_) ?_ hHeld ?_
          rotate_left
          · (intro ww _; go_simp; try with_reducible rfl)
          refine tkW 5 (some 35) (v := ?_) ?_ hHeld ?_
          rotate_left
          · (intro ww hSw; (try dsimp only at hSw); go_simp; try with_reducible rfl)
          refine tkW 6 (some 36) (v := ?_) ?_ hHeld ?_
          rotate_left
          · (intro ww _; go_simp; try with_reducible rfl)
          refine tkW 7 (some 37) (v := ?_) ?_ hHeld ?_
          rotate_left
          · (intro ww hSw; (try dsimp only at hSw); have q6 : ww.cell? ⟨nb, no, none⟩ = some (.int .i64 t.k.1) := (hSw.cell (p := ⟨nb, no, none⟩) HKl.out.1).trans HKl.out.2.1; have q7 : ww.cell? ⟨nb, no + 1, none⟩ = some (.int .i64 t.k.2) := (hSw.cell (p := ⟨nb, no + 1, none⟩) HKl.out.1).trans HKl.out.2.2; go_simp; try with_reducible rfl)
          refine tkW 8 (some 38) (v := ?_) ?_ hHeld ?_
          rotate_left
          · (intro ww hSw; (try dsimp only at hSw); go_simp; try with_reducible rfl)
          refine tkW 9 (some 39) (v := ?_) ?_ hHeld ?_
          rotate_left
          · (intro ww _; go_simp; try with_reducible rfl)
          refine wpAnyH_done (by kernel_rfl) ?_ _
          clear hq
          clear hHeld HSb0 HKl
          obtain ⟨y0, y1, y2, y3, y4, y5⟩ := row6d Hxb.out
          go_wp2_with (at_builtin; refine StpD.to ?_)
          refine StpD.of ?_
          clear y0 y1 y2 y3 y4 y5
          obtain ⟨W4, eW4⟩ : ∃ X, X = Us113u0.alloc (.cells #[.int .i64 x.k.1, .int .i64 x.k.2] 23) := ⟨_, rfl⟩
          have hq : W4.heap[Us113u0.heap.size]? = some (.cells (stCells x.k).toArray 23) := (by rw [eW4]; exact heap_alloc_new _ _)
          have hb4 : Below Us113u0.heap.size Us113u0 W4 := (by rw [eW4]; exact (Below.refl _ _).alloc (Nat.le_refl _) _)
          rw [← eW4]
          replace HS : Hid (ShS w (.slice sa KL.length sc) (KL) (.slice pa PL.length pc) (PL) W4) := HS.out.below hb4
          replace Hsb := hide9 ((hb4.block _ (row_lt Hsb.out)).trans Hsb.out)
          clear eW4 hb4 Hxb
          refine wpList_app1E (enc := stCells) (n := 2) (fun _ => rfl) (T := 23) Try.underlying42 hi2 hx0 hx1 hx2 rfl (by decide) (by decide) rfl _ _ rfl w.heap.size _ KL rfl HS.out.a Us113u0.heap.size x.k rfl hq (stOne x.k) (Nat.le_trans Hll.out.1 (by decide)) HS.out.bel.size ?_
          intro g c W5 ho hg
          have h1 := HS.out.pushA hg ho
          replace Hsb := hide9 ((hg.block _ (row_lt Hsb.out) (fun e => by obtain ⟨c9, h9⟩ := own_cellsE HS.out.a e.symm; rw [Hsb.out] at h9; injection h9 with h9; injection h9 with _ h9 _; exact absurd h9 (by decide))).trans Hsb.out)
          replace HS := hide9 h1
          clear h1 hq ho hg
          obtain ⟨z0, z1, z2, z3⟩ := row4 Hsb.out
          go_wp2_with (at_builtin; refine StpD.to ?_)
          refine StpD.of ?_
          clear z0 z1 z2 z3
          obtain ⟨W6, eW6⟩ : ∃ X, X = W5.alloc (.cells #[.int .i64 (lv.i : Int)] 3) := ⟨_, rfl⟩
          have hq : W6.heap[W5.heap.size]? = some (.cells (intCells (lv.i : Int)).toArray 3) := (by rw [eW6]; exact heap_alloc_new _ _)
          have hb4 : Below W5.heap.size W5 W6 := (by rw [eW6]; exact (Below.refl _ _).alloc (Nat.le_refl _) _)
          rw [← eW6]
          replace HS := hide9 (HS.out.below hb4)
          clear eW6 hb4 Hsb
          refine wpList_app1E (enc := intCells) (n := 1) (fun _ => rfl) (T := 3) Try.underlying78 hi1 hy0 hy1 hy2 rfl (by decide) (by decide) rfl _ _ rfl w.heap.size _ PL rfl HS.out.b W5.heap.size (lv.i : Int) rfl hq (intOne _) (Nat.le_trans Hll.out.2 (by decide)) HS.out.bel.size ?_
          intro g2 c2 W7 ho hg
          replace HS := hide9 (HS.out.pushB hg ho)
          clear hq ho hg
          go_wp2
          go_roundw
          case rel => exact ⟨i + 1, _, _, by go_num, by omega, HS, (by show _ ∧ _; rw [Htk.out, Hbb.out]; simp only [if_true, if_pos Hab.out, List.map_append, ← HE.out.1, ← HE.out.2]; exact ⟨rfl, rfl⟩)⟩
          case measure => simp [intOf]; omega
    · have ei : i = t.ks.length := by omega
      subst ei
      rw [List.take_length] at HE
      have k1 : ¬ (t.ks.length : Int) < (t.ks.length : Int) := by omega
      have hmm := @run_makeMap Try.prog
      go_wp2_with fail
      clear hmm
      obtain ⟨W1, eW⟩ : ∃ X, X = wr.alloc (.map #[] 0) := ⟨_, rfl⟩
      have hb1 : Below wr.heap.size wr W1 := (by rw [eW]; exact (Below.refl _ _).alloc (Nat.le_refl _) _)
      obtain ⟨sb, esb⟩ : ∃ b, b = wr.heap.size := ⟨_, rfl⟩
      have hm1 : MapIs id kU W1 sb ([] : List St) := (by rw [eW, esb]; exact MapIs.new _)
      have Hsb : Hid (w.heap.size ≤ sb ∧ wr.heap.size ≤ sb) := ⟨by rw [esb]; exact HS.out.bel.size, by rw [esb]; exact Nat.le_refl _⟩
      rw [← eW, ← esb]
      have hf1 : ∀ k, (Value.slice sa KL.length sc).ownBlock = some k → k ≠ sb := fun k e => by have := (OwnE.lt HS.out.a k e).2; rw [esb]; omega
      replace HS := hide9 (HS.out.below hb1)
      clear eW esb hb1 k1 hi hlt Hf Hkc Hm hi1 hy0 hy1 hy2 hi2 hx0 hx1 hx2
      have hll : PL.length ≤ t.ks.length ∧ KL.length = PL.length := (by rw [HE.out.1, HE.out.2, List.length_map, List.length_map]; exact ⟨stL_len D t.k t.ks, rfl⟩)
      have Hll : Hid (PL.length ≤ 1048576 ∧ KL.length = PL.length) := ⟨by have := Hl.out; omega, hll.2⟩
      clear hll Hl
      have hI : OwnI w.heap.size W1 (.slice pa PL.length pc) PL := (by have h9 := HS.out.b; unfold OwnE at h9; rw [flat_int] at h9; exact h9)
      refine (others_any _ PL _ (hI.isI (Nat.le_trans Hll.out.1 (by decide)))).mono ?_
      have HSL : Hid (sb < W1.heap.size) := hm1.lt
      rintro e W2 ⟨ov, rfl, ho, hb2⟩
      have ho2 := ho
      obtain ⟨oa, oc, eo⟩ := ho.form
      subst eo
      replace HS := hide9 (HS.out.below hb2)
      replace hm1 := hm1.keep (hb2.block _ hm1.lt)
      have Hol : Hid ((othL PL).length ≤ PL.length) := oth_len _ _ _
      have hI2 := ho.isI (Nat.le_trans Hol.out (Nat.le_trans Hll.out.1 (by decide)))
      obtain ⟨oa9, oc9, eo9, hoc, _, hoI⟩ := hI2
      injection eo9 with e1 _ e3
      subst e1 e3
      have HI := hide9 hoI
      have HOs : Hid (∀ k, (Value.slice oa (othL PL).length oc).ownBlock = some k → k ≠ sb) := (fun k e => by have h9 := (World.ownsRow.lt ho2 k e).1; have := HSL.out; omega)
      have HKs := hide9 hf1
      clear hoI hf1 hI ho ho2 hb2 hoc HSL
      obtain ⟨O, eO⟩ : ∃ O, O = othL PL := ⟨_, rfl⟩
      rw [← eO] at HI HOs Hol ⊢
      have HO := hide9 eO
      have hol9 : O.length ≤ 1048576 := Nat.le_trans Hol.out Hll.out.1
      clear eO
      have HM : Hid (MapIs id kU W2 sb ([] : List St)) := hm1
      have HK : Hid (KeepsS (fun k => k ≠ sb ∧ k < W2.heap.size) W2 W2) := KeepsS.refl _ _
      have HB : Hid (Below w.heap.size w W2) := HS.out.bel
      clear hm1
      go_wp2
      go_loopw [55] (fun iv wr => ∃ (j : Nat) (L : List St), iv = .int .i64 (j : Int) ∧ j ≤ O.length ∧ Hid (MapIs id kU wr sb L) ∧ Hid (L.Nodup ∧ ∀ s, s ∈ L ↔ s ∈ (O.take j).map fun i => KL.getD i.toNat (0, 0)) ∧ Hid (KeepsS (fun k => k ≠ sb ∧ k < W2.heap.size) W2 wr) ∧ Hid (Below w.heap.size w wr)) (fun iv _ => O.length - (intOf iv).toNat)
      case atStart => exact ⟨0, [], rfl, Nat.zero_le _, HM, ⟨List.nodup_nil, fun s => by simp⟩, HK, HB⟩
      case round =>
        clear HM HK HB
        obtain ⟨j, L, rfl, hj, HM, HN, HK, HB⟩ := hrel
        by_cases hjt : j < O.length
        · obtain ⟨m, em, hm⟩ : ∃ m : Nat, O[j] = (m : Int) ∧ m < KL.length := (by have h8 : ∀ p ∈ O, ∃ m : Nat, p = (m : Int) ∧ m < 0 + PL.length := (by rw [HO.out]; exact oth_at _ _ _); obtain ⟨m, e, h9⟩ := h8 _ (List.getElem_mem hjt); exact ⟨m, e, by have := Hll.out.2; omega⟩)
          obtain ⟨g, og, ego, hIA⟩ := HI.out.resolve_left (fun e => by rw [e] at hjt; simp at hjt)
          subst ego
          have c0 := hIA j hjt
          rw [em] at c0
          obtain ⟨kg, kcp, ek, _, hkc, _⟩ := OwnE.cells stCells_len HS.out.a hm
          injection ek with ek1 ek2 ek3
          subst ek1
          have c1 := hkc 0 _ rfl
          have c2 := hkc 1 _ rfl
          have d0 := (HK.out.cell (p := ⟨g, og + j, none⟩) ⟨HOs.out g rfl, cell_lt (p := ⟨g, og + j, none⟩) c0⟩).trans c0
          have d1 := (HK.out.cell (p := ⟨kg, m * 2 + 0, none⟩) ⟨HKs.out kg rfl, cell_lt (p := ⟨kg, m * 2 + 0, none⟩) c1⟩).trans c1
          have d2 := (HK.out.cell (p := ⟨kg, m * 2 + 1, none⟩) ⟨HKs.out kg rfl, cell_lt (p := ⟨kg, m * 2 + 1, none⟩) c2⟩).trans c2
          rw [Nat.add_zero] at d1
          obtain ⟨x, ex⟩ : ∃ x, x = KL[m] := ⟨_, rfl⟩
          rw [← ex] at d1 d2
          have Hx : Hid (∀ s, s ∈ (O.take (j + 1)).map (fun i => KL.getD i.toNat (0, 0)) ↔ s ∈ (O.take j).map (fun i => KL.getD i.toNat (0, 0)) ∨ s = x) := (by show ∀ s, _; intro s; rw [List.take_succ_eq_append_getElem hjt, List.map_append, List.mem_append, em, ex]; simp [hm])
          obtain ⟨W3, hup, hgr, hsz, hor⟩ := store_st 69 89 uSet HM.out x
          have hup2 : (Instr.mapUpdate 69 (.map (some sb)) (.agg #[.int .i64 x.1, .int .i64 x.2]) (.agg #[])).run Try.prog wr = .ok () W3 := hup
          obtain ⟨L2, hM2, hN2, hL2⟩ := put_st (P := fun L => MapIs id kU W3 sb L) HN.out.1 hor
          have HM2 := hide9 hM2
          have HN2 : Hid (L2.Nodup ∧ ∀ s, s ∈ L2 ↔ s ∈ (O.take (j + 1)).map fun i => KL.getD i.toNat (0, 0)) := ⟨hN2, fun s => by rw [hL2, HN.out.2, Hx.out]; rfl⟩
          have HK2 : Hid (KeepsS (fun k => k ≠ sb ∧ k < W2.heap.size) W2 W3) := HK.out.trans ⟨hgr.size, fun k q => hgr.block k (Nat.lt_of_lt_of_le q.2 HK.out.1) (fun e => by injection e with e; exact q.1 e)⟩
          have HB2 : Hid (Below w.heap.size w W3) := HB.out.grown hgr HB.out.size (fun k e => by cases e; exact Hsb.out.1)
          have j1 : (j : Int) < (O.length : Int) := by omega
          have j0 : (0 : Int) ≤ (j : Int) := by omega
          have m1 : (m : Int) < (KL.length : Int) := by omega
          have m0 : (0 : Int) ≤ (m : Int) := by omega
          clear c0 c1 c2 hkc hIA ex hup hgr hsz hor hM2 hN2 hL2 em HM HN HK HB Hx
          go_wp2
          go_roundw
          case rel => exact ⟨j + 1, L2, by go_num, by omega, HM2, HN2, HK2, HB2⟩
          case measure => simp [intOf]; omega
        · have ej : j = O.length := by omega
          subst ej
          have j1 : ¬ (O.length : Int) < (O.length : Int) := by omega
          go_wp2
          (try rw [Exit.noGoto_ret])
          go_ret
          exact ⟨sb, rfl, L, HM.out, HN.out.1, fun s1 s2 => by rw [HN.out.2 (s1, s2), List.take_length, HO.out, HE.out.1, HE.out.2]; rfl, Hsb.out.1, HB.out⟩
end Go.Proofs.Ythhnglpkfcmjiaa
