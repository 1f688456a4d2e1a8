/- Apply. -/
import Derived.Test.YtccpljllgpabnabPlainPg
namespace Go.Proofs.Ytccpljllgpabnab
open Go.RowKit
set_option linter.unusedVariables false
set_option linter.unusedSimpArgs false

theorem results_cell_row3 {P : Program} {fn : Func} {p u v : Tmp} {ty : TypeId} (h : fn.results = #[.cell p ty, .tmp u, .tmp v]) (tmps : Array Value) (w : World) (g : Nat) (t : TypeId) (cs : Array Value) (fr : Nat × Nat) (d : TypeDesc)
    (hp : tmps.getD p undef = .pointer (some ⟨g, 0, none⟩)) (hg : w.heap[g]? = some (.cells cs t fr))
    (hu : P.underlying ty = some d) (hd : (match d with | .struct _ | .array _ _ => true | _ => false) = true) (hi : (P.info? ty).map (·.size) = some cs.size) {k l : Value} (hk : tmps.getD u undef = k) (hl : tmps.getD v undef = l) :
    (results fn tmps).run P w = .ok (.tuple #[.agg cs, k, l]) w := by
  simp only [results, h]
  simp only [Array.getD_eq_getD_getElem?] at hp hk hl
  simp [Sem.run_bind, Result.andThen, hp, hk, hl, asAddr, run_loadVar_row w g t ty cs fr d hg hu hd hi]
/-- Steps, one behind the other. -/
def runP : List Pa → Nat → VT → List VT → Int × Nat × VT × List VT
  | [], i, T, H => (0, i, T, H)
  | p :: r, i, T, H => if chkP p ≠ 0 then (chkP p, i, T, H) else if (stepU p T H).1 ≠ 0 then ((stepU p T H).1, i, T, H) else runP r (i + 1) (stepU p T H).2.1 (stepU p T H).2.2
def tZe : VT := .node (0, 0) ⟨#[]⟩ ⟨#[]⟩ [] []
/-- What comes of a tree by steps. -/
def appR (t : VT) (L : List Pa) : VT × Nat × Int :=
  if chkT t ≠ 0 then (tZe, 0, chkT t) else
  if (runP L 0 t []).1 ≠ 0 then (tZe, (runP L 0 t []).2.1, (runP L 0 t []).1) else
  if (runP L 0 t []).2.2.2 = [] then ((runP L 0 t []).2.2.1, L.length, 0) else (tZe, L.length, 7)
def ApP (t : VT) (L : List Pa) (w : World) (e : Ending) (w' : World) : Prop := ∃ v, e = .returned (.tuple #[v, .int .i64 ((appR t L).2.1 : Int), .int .i64 (appR t L).2.2]) ∧ VIs (fun k => k < w'.heap.size) w' v (appR t L).1 ∧ Below w.heap.size w w'
theorem ApP.zero {t : VT} {L : List Pa} {w w' : World} {n : Nat} {c : Int} (h : appR t L = (tZe, n, c)) (hb : Below w.heap.size w w') : ApP t L w (.returned (.tuple #[.agg #[.int .i64 0, .int .i64 0, .string ⟨#[]⟩, .string ⟨#[]⟩, .slice none 0 0, .slice none 0 0], .int .i64 (n : Int), .int .i64 c])) w' :=
  ⟨_, by rw [h], by rw [h]; exact ⟨_, _, rfl, LsE.nil _ _ _, by simp [tZe, VT.at_], none, 0, rfl, Nat.le_refl _, by simp [tZe, VT.ks], .inl rfl⟩, hb⟩
theorem ApP.tree {t T : VT} {L : List Pa} {w w' : World} {n : Nat} {c : Int} {v : Value} (h : appR t L = (T, n, c)) (hv : VIs (fun k => k < w'.heap.size) w' v T) (hb : Below w.heap.size w w') : ApP t L w (.returned (.tuple #[v, .int .i64 (n : Int), .int .i64 c])) w' :=
  ⟨_, by rw [h], by rw [h]; exact hv, hb⟩
/-- What a method does with a right step. -/
def StpC (f : Nat) (p : Pa) : Prop := ∀ (B wb bm bh top : Nat) (X : Nat → Prop) (g : Gr) (D : List (St × Nat)) (T : VT) (H : List VT) (w : World), PwM B wb bm bh (some top) X g D w → PwP bh X g D [T] [top] H → OkB T H → Calls Try.prog f #[.pointer (some ⟨wb, 0, none⟩), paV p] w fun e w' => StpP B wb bm bh top (stepU p T H) e w' ∧ BelT B w w'
/-- The method for a right step. -/
theorem step_disp (wb : Nat) (p : Pa) (hp : chkP p = 0) (h8 : p.kd = 8 → StpC 37 p) (h9 : p.kd = 9 → StpC 38 p) : ∃ (n f : Nat), p.kd = (n : Int) ∧ n < 10 ∧ (#[.nilFunc, .func (.func 30) #[.pointer (some ⟨wb, 0, none⟩)] #[], .func (.func 31) #[.pointer (some ⟨wb, 0, none⟩)] #[], .func (.func 32) #[.pointer (some ⟨wb, 0, none⟩)] #[], .func (.func 33) #[.pointer (some ⟨wb, 0, none⟩)] #[], .func (.func 34) #[.pointer (some ⟨wb, 0, none⟩)] #[], .func (.func 35) #[.pointer (some ⟨wb, 0, none⟩)] #[], .func (.func 36) #[.pointer (some ⟨wb, 0, none⟩)] #[], .func (.func 37) #[.pointer (some ⟨wb, 0, none⟩)] #[], .func (.func 38) #[.pointer (some ⟨wb, 0, none⟩)] #[]] : Array Value)[n]? = some (.func (.func f) #[.pointer (some ⟨wb, 0, none⟩)] #[]) ∧ (∀ args w, (callFunc f args).run Try.prog w = .ok (.enter f args) w) ∧ StpC f p := by
  obtain ⟨⟨k1, k2⟩, _, _, k4, _, _⟩ := chkP_parts hp
  by_cases e : p.kd = 1
  · exact ⟨1, 30, e, by decide, rfl, fun args w => by kernel_rfl, fun B wb bm bh top X g D T H w hm hq _ => take_s p w hm hq e⟩
  by_cases e : p.kd = 2
  · exact ⟨2, 31, e, by decide, rfl, fun args w => by kernel_rfl, fun B wb bm bh top X g D T H w hm hq _ => drop_s p w hm hq e⟩
  by_cases e : p.kd = 3
  · exact ⟨3, 32, e, by decide, rfl, fun args w => by kernel_rfl, fun B wb bm bh top X g D T H w hm hq _ => make_s p w hm hq e⟩
  by_cases e : p.kd = 4
  · exact ⟨4, 33, e, by decide, rfl, fun args w => by kernel_rfl, fun B wb bm bh top X g D T H w hm hq _ => put_s p w hm hq e⟩
  by_cases e : p.kd = 5
  · exact ⟨5, 34, e, by decide, rfl, fun args w => by kernel_rfl, fun B wb bm bh top X g D T H w hm hq _ => shift_s p w hm hq e (aft_ne e k4)⟩
  by_cases e : p.kd = 6
  · exact ⟨6, 35, e, by decide, rfl, fun args w => by kernel_rfl, fun B wb bm bh top X g D T H w hm hq _ => setTag_s p w hm hq e⟩
  by_cases e : p.kd = 7
  · exact ⟨7, 36, e, by decide, rfl, fun args w => by kernel_rfl, fun B wb bm bh top X g D T H w hm hq _ => setText_s p w hm hq e⟩
  by_cases e : p.kd = 8
  · exact ⟨8, 37, e, by decide, rfl, fun args w => by kernel_rfl, h8 e⟩
  by_cases e : p.kd = 9
  · exact ⟨9, 38, e, by decide, rfl, fun args w => by kernel_rfl, h9 e⟩
  omega
theorem paCells_len (p : Pa) : (paCells p).length = 9 := rfl
/-- What stands while steps are done. -/
structure ApS (w : World) (t : VT) (L : List Pa) (lv : Value) (B wb bm bh top sb i : Nat) (T : VT) (H : List VT) (X : Nat → Prop) (g : Gr) (D : List (St × Nat)) (W : World) : Prop where
  m : PwM B wb bm bh (some top) X g D W
  p : PwP bh X g D [T] [top] H
  ok : OkB T H
  bel : Below w.heap.size w W
  rb : W.heap[w.heap.size + 1]? = some (.cells #[.int .i64 0, .int .i64 0, .string ⟨#[]⟩, .string ⟨#[]⟩, .slice none 0 0, .slice none 0 0] 27)
  sb : W.heap[sb]? = some (.cells #[.nilFunc, .func (.func 30) #[.pointer (some ⟨wb, 0, none⟩)] #[], .func (.func 31) #[.pointer (some ⟨wb, 0, none⟩)] #[], .func (.func 32) #[.pointer (some ⟨wb, 0, none⟩)] #[], .func (.func 33) #[.pointer (some ⟨wb, 0, none⟩)] #[], .func (.func 34) #[.pointer (some ⟨wb, 0, none⟩)] #[], .func (.func 35) #[.pointer (some ⟨wb, 0, none⟩)] #[], .func (.func 36) #[.pointer (some ⟨wb, 0, none⟩)] #[], .func (.func 37) #[.pointer (some ⟨wb, 0, none⟩)] #[], .func (.func 38) #[.pointer (some ⟨wb, 0, none⟩)] #[]] 47)
  ls : LsE paCells 9 (fun k => k < w.heap.size) W lv L
  run : runP L 0 t [] = runP (L.drop i) i T H
  rlt : w.heap.size + 1 < B
section
variable {w W W' : World} {t : VT} {L : List Pa} {lv : Value} {B wb bm bh top sb i : Nat} {T : VT} {H : List VT} {X : Nat → Prop} {g : Gr} {D : List (St × Nat)}
theorem ApS.below (h : ApS w t L lv B wb bm bh top sb i T H X g D W) (hb : Below W.heap.size W W') : ApS w t L lv B wb bm bh top sb i T H X g D W' := ⟨h.m.below hb, h.p, h.ok, h.bel.trans (hb.mono h.bel.size), (hb.block _ (row_lt h.rb)).trans h.rb, (hb.block _ (row_lt h.sb)).trans h.sb, h.ls.below hb, h.run, h.rlt⟩
theorem ApS.step (h : ApS w t L lv B wb bm bh top sb i T H X g D W) {p : Pa} (hi : i < L.length) (ep : p = L[i]) (hp : chkP p = 0) (hz : (stepU p T H).1 = 0) {X2 : Nat → Prop} {g2 : Gr} {D2 : List (St × Nat)} (hs : PwS B wb bm bh top X2 g2 D2 (stepU p T H).2.1 (stepU p T H).2.2 W') (hb : BelT B W W') : ApS w t L lv B wb bm bh top sb (i + 1) (stepU p T H).2.1 (stepU p T H).2.2 X2 g2 D2 W' := by
  have hlt := h.rlt
  refine ⟨hs.m, hs.p, h.ok.step hp hz, h.bel.trans (hb.b.mono (by omega)), (hb.b.block _ hlt).trans h.rb, hb.f _ _ h.sb, h.ls.turn hb.b.size fun k q _ => ⟨q, hb.b.block k (by omega)⟩, ?_, hlt⟩
  rw [h.run, List.drop_eq_getElem_cons hi, ← ep, runP, if_neg (by rw [hp]; simp), if_neg (by rw [hz]; simp)]
theorem ApS.bad (h : ApS w t L lv B wb bm bh top sb i T H X g D W) {p : Pa} (hc : chkT t = 0) (hi : i < L.length) (ep : p = L[i]) (hp : chkP p ≠ 0) : appR t L = (tZe, i, chkP p) := by
  have h1 : runP L 0 t [] = (chkP p, i, T, H) := by rw [h.run, List.drop_eq_getElem_cons hi, ← ep, runP, if_pos hp]
  unfold appR
  rw [if_neg (by rw [hc]; simp), h1, if_pos hp]
theorem ApS.err (h : ApS w t L lv B wb bm bh top sb i T H X g D W) {p : Pa} (hc : chkT t = 0) (hi : i < L.length) (ep : p = L[i]) (hp : chkP p = 0) (hz : (stepU p T H).1 ≠ 0) : appR t L = (tZe, i, (stepU p T H).1) := by
  have h1 : runP L 0 t [] = ((stepU p T H).1, i, T, H) := by rw [h.run, List.drop_eq_getElem_cons hi, ← ep, runP, if_neg (by rw [hp]; simp), if_pos hz]
  unfold appR
  rw [if_neg (by rw [hc]; simp), h1, if_pos hz]
theorem ApS.fin (h : ApS w t L lv B wb bm bh top sb L.length T H X g D W) (hc : chkT t = 0) : appR t L = if H = [] then (T, L.length, 0) else (tZe, L.length, 7) := by
  have h1 : runP L 0 t [] = (0, L.length, T, H) := by rw [h.run, List.drop_length, runP]
  unfold appR
  rw [if_neg (by rw [hc]; simp), h1, if_neg (by simp)]
theorem ApS.trG (h : ApS w t L lv B wb bm bh top sb i T H X g D W) : TrG X g W := ⟨h.m.mem, h.p.lk, fun b hb => OwnE.low (h.m.at_ b hb) (Nat.zero_le _)⟩
theorem ApS.bounds (h : ApS w t L lv B wb bm bh top sb i T H X g D W) : (∀ r ∈ recV T, r.at_.length ≤ 4096) ∧ T.sz ≤ 8192 := ⟨fun r hr => (chkF_parts (h.ok.ok r (List.mem_append_left _ hr))).2.2.1, by have := h.ok.sz; omega⟩
end
theorem sizePa : (Try.prog.info? 42).map (·.size) = some 9 := by kernel_rfl
theorem sizeFA : (Try.prog.info? 47).map (·.size) = some 10 := by kernel_rfl

set_option maxRecDepth 100000 in
set_option maxHeartbeats 8000000 in
theorem apply_any (G G2 : Nat → Prop) (t : VT) (v lv : Value) (L : List Pa) (w : World) (hv : VIs G w v t) (hl : LsE paCells 9 G2 w lv L) (hsz : t.sz ≤ 1048576) (hbn : BnA t) (hnm : ∀ p ∈ L, p.nm.size ≤ 281474976710656) (hst : ∀ p ∈ L, chkP p = 0 → (p.kd = 8 → StpC 37 p) ∧ (p.kd = 9 → StpC 38 p)) :
    Calls Try.prog 6 #[v, lv] w fun e w' => ApP t L w e w' := by
  obtain ⟨aa, ca, ak, ck, e1, fd0⟩ := hv.form
  subst e1
  obtain ⟨a0, cap0, e1⟩ := hl.form
  subst e1
  obtain ⟨W1, eW1⟩ : ∃ X, X = ((w.alloc (.cells #[.int .i64 t.k.1, .int .i64 t.k.2, .string t.tg, .string t.tx, .slice aa t.at_.length ca, .slice ak t.ks.length ck] 27)).alloc (.cells #[.int .i64 0, .int .i64 0, .string ⟨#[]⟩, .string ⟨#[]⟩, .slice none 0 0, .slice none 0 0] 27)) := ⟨_, rfl⟩
  have hb1 : Below w.heap.size w W1 := by rw [eW1]; exact ((Below.refl _ _).alloc (Nat.le_refl _) _).alloc (by simp) _
  have HT : Hid (W1.heap[w.heap.size]? = some (.cells #[.int .i64 t.k.1, .int .i64 t.k.2, .string t.tg, .string t.tx, .slice aa t.at_.length ca, .slice ak t.ks.length ck] 27)) := hide9 (by rw [eW1, Below.heap_alloc _ _ _ (by simp)]; exact heap_alloc_new w _)
  have HR : Hid (W1.heap[w.heap.size + 1]? = some (.cells #[.int .i64 0, .int .i64 0, .string ⟨#[]⟩, .string ⟨#[]⟩, .slice none 0 0, .slice none 0 0] 27)) := hide9 (by rw [eW1]; have h9 := heap_alloc_new (w.alloc (.cells #[.int .i64 t.k.1, .int .i64 t.k.2, .string t.tg, .string t.tx, .slice aa t.at_.length ca, .slice ak t.ks.length ck] 27)) (.cells #[.int .i64 0, .int .i64 0, .string ⟨#[]⟩, .string ⟨#[]⟩, .slice none 0 0, .slice none 0 0] 27); rw [show (w.alloc (.cells #[.int .i64 t.k.1, .int .i64 t.k.2, .string t.tg, .string t.tx, .slice aa t.at_.length ca, .slice ak t.ks.length ck] 27)).heap.size = w.heap.size + 1 by simp] at h9; exact h9)
  have HB := hide9 hb1
  have HL : Hid (LsE paCells 9 (fun k => k < w.heap.size) W1 (.slice a0 L.length cap0) L) := hide9 ((hl.turn (Nat.le_refl _) fun k _ q => ⟨q, rfl⟩).below hb1)
  have HF : Hid (FdIs (fun k => k < w.heap.size) W1 (.slice aa t.at_.length ca) (.slice ak t.ks.length ck) t.at_ t.ks) := hide9 ((fd0.turn (Nat.le_refl _) fun k _ q => ⟨q, rfl⟩).below hb1)
  have HE := hide9 eW1
  have Hsz := hide9 hsz
  have Hbn := hide9 hbn
  have Hnm := hide9 hnm
  have Hst := hide9 hst
  have hll := hl.len
  clear eW1 hb1 hv fd0 hl hsz hbn hnm hst
  go_enter Try.func6, Try.ntmps6
  go_upto_region 1 with fail
  rw [← HE.out]
  clear HE
  obtain ⟨p0, p1, p2, p3, p4, p5⟩ := row6 HT.out
  go_upto_region 2 with (go_at_call 13; refine (check_any _ t _ _ (VIs.of HF.out) Hsz.out Hbn.out).mono ?_; rintro e w2 ⟨rfl, hb⟩)
  clear p0 p1 p2 p3 p4 p5
  replace HT : Hid (w2.heap[w.heap.size]? = some (.cells #[.int .i64 t.k.1, .int .i64 t.k.2, .string t.tg, .string t.tx, .slice aa t.at_.length ca, .slice ak t.ks.length ck] 27)) := (hb.block _ (row_lt HT.out)).trans HT.out
  replace HR : Hid (w2.heap[w.heap.size + 1]? = some (.cells #[.int .i64 0, .int .i64 0, .string ⟨#[]⟩, .string ⟨#[]⟩, .slice none 0 0, .slice none 0 0] 27)) := (hb.block _ (row_lt HR.out)).trans HR.out
  replace HL := hide9 (HL.out.below hb)
  replace HF := hide9 (HF.out.below hb)
  replace HB : Hid (Below w.heap.size w w2) := HB.out.trans (hb.mono HB.out.size)
  clear hb
  by_cases hc : chkT t = 0
  · have HC := hide9 hc
    rw [hc]
    clear hc
    obtain ⟨p0, p1, p2, p3, p4, p5⟩ := row6 HT.out
    have hob := (chkT_iff t).1 HC.out
    have hkn : (keysV t).Nodup := (List.nodup_append.1 hob.nd).1
    have HO := hide9 hob
    have HKn := hide9 hkn
    clear hob hkn
    go_upto_region 5 with (go_at_call 14; refine (begin_any _ (fun k => k < w.heap.size) t _ w2 (Nat.le_refl _) (VIs.of HF.out) (fun k q => Nat.lt_of_lt_of_le q HB.out.size) HKn.out).mono ?_; rintro e w3 ⟨wb, bm, bh, top, X, g, D, rfl, hS, hb⟩)
    clear p0 p1 p2 p3 p4 p5
    obtain ⟨B, eB⟩ : ∃ b, b = w2.heap.size := ⟨_, rfl⟩
    rw [← eB] at hS hb
    have HRb : Hid (w.heap.size + 1 < B) := hide9 (by rw [eB]; exact row_lt HR.out)
    replace HR : Hid (w3.heap[w.heap.size + 1]? = some (.cells #[.int .i64 0, .int .i64 0, .string ⟨#[]⟩, .string ⟨#[]⟩, .slice none 0 0, .slice none 0 0] 27)) := (hb.block _ HRb.out).trans HR.out
    replace HL := hide9 (HL.out.turn (G' := fun k => k < w.heap.size) hb.size fun k q _ => ⟨q, hb.block k (by have := HRb.out; omega)⟩)
    replace HB : Hid (Below w.heap.size w w3) := HB.out.trans (hb.mono (by have := HRb.out; omega))
    have HS := hide9 hS
    clear hb eB hS HF HT HKn
    go_upto_region 6 with (first | (go_at_call 15; refine (steps_any wb _).mono ?_; rintro e w4 ⟨rfl, hb⟩; replace HR : Hid (w4.heap[w.heap.size + 1]? = some (.cells #[.int .i64 0, .int .i64 0, .string ⟨#[]⟩, .string ⟨#[]⟩, .slice none 0 0, .slice none 0 0] 27)) := (hb.block _ (row_lt HR.out)).trans HR.out; replace HL := hide9 (HL.out.below hb); replace HB : Hid (Below w.heap.size w w4) := HB.out.trans (hb.mono HB.out.size); replace HS : Hid (PwS B wb bm bh top X g D t [] w4) := ⟨HS.out.m.below hb, HS.out.p⟩; clear hb; have Hz : Hid ((w4.alloc (.cells #[.nilFunc, .nilFunc, .nilFunc, .nilFunc, .nilFunc, .nilFunc, .nilFunc, .nilFunc, .nilFunc, .nilFunc] 47)).heap[w4.heap.size]? = some (.cells #[.nilFunc, .nilFunc, .nilFunc, .nilFunc, .nilFunc, .nilFunc, .nilFunc, .nilFunc, .nilFunc, .nilFunc] 47)) := hide9 (heap_alloc_new _ _)) | (refine wpList_store_row rfl 47 (.tmp 9) (.tmp 22) rfl w4.heap.size 47 #[.nilFunc, .nilFunc, .nilFunc, .nilFunc, .nilFunc, .nilFunc, .nilFunc, .nilFunc, .nilFunc, .nilFunc] #[.nilFunc, mth 30 wb, mth 31 wb, mth 32 wb, mth 33 wb, mth 34 wb, mth 35 wb, mth 36 wb, mth 37 wb, mth 38 wb] rfl rfl Hz.out sizeFA rfl (by simp [Value.oneCell', mth]) ?_))
    obtain ⟨W5, eW5⟩ : ∃ X, X = (w4.alloc (.cells #[.nilFunc, .nilFunc, .nilFunc, .nilFunc, .nilFunc, .nilFunc, .nilFunc, .nilFunc, .nilFunc, .nilFunc] 47)).setRow w4.heap.size #[.nilFunc, mth 30 wb, mth 31 wb, mth 32 wb, mth 33 wb, mth 34 wb, mth 35 wb, mth 36 wb, mth 37 wb, mth 38 wb] := ⟨_, rfl⟩
    have hb5 : Below w4.heap.size w4 W5 := (by rw [eW5]; exact ((Below.refl _ _).alloc (Nat.le_refl _) _).grown (grown_setRow _ _ _) (by simp) (fun k e => by cases e; exact Nat.le_refl _))
    obtain ⟨sb, esb⟩ : ∃ n, n = w4.heap.size := ⟨_, rfl⟩
    have HSb : Hid (W5.heap[sb]? = some (.cells #[.nilFunc, .func (.func 30) #[.pointer (some ⟨wb, 0, none⟩)] #[], .func (.func 31) #[.pointer (some ⟨wb, 0, none⟩)] #[], .func (.func 32) #[.pointer (some ⟨wb, 0, none⟩)] #[], .func (.func 33) #[.pointer (some ⟨wb, 0, none⟩)] #[], .func (.func 34) #[.pointer (some ⟨wb, 0, none⟩)] #[], .func (.func 35) #[.pointer (some ⟨wb, 0, none⟩)] #[], .func (.func 36) #[.pointer (some ⟨wb, 0, none⟩)] #[], .func (.func 37) #[.pointer (some ⟨wb, 0, none⟩)] #[], .func (.func 38) #[.pointer (some ⟨wb, 0, none⟩)] #[]] 47)) := hide9 (by rw [eW5, esb]; exact setRow_same Hz.out)
    rw [← eW5, ← esb]
    have HP : Hid (ApS w t L (.slice a0 L.length cap0) B wb bm bh top sb 0 t [] X g D W5) := hide9 ⟨HS.out.m.below hb5, HS.out.p, HO.out, HB.out.trans (hb5.mono HB.out.size), (hb5.block _ (row_lt HR.out)).trans HR.out, HSb.out, HL.out.below hb5, rfl, HRb.out⟩
    clear Hz eW5 esb hb5 HR HL HB HS HSb HO
    go_wp2
    go_loopg [25] (L.length) (fun gk iv wr => ∃ (i : Nat) (T : VT) (H : List VT) (X : Nat → Prop) (g : Gr) (D : List (St × Nat)), iv = .int .i64 (i : Int) ∧ i ≤ L.length ∧ gk = L.length - i ∧ Hid (ApS w t L (.slice a0 L.length cap0) B wb bm bh top sb i T H X g D wr))
    case atStart => exact ⟨0, t, [], X, g, D, rfl, Nat.zero_le _, rfl, HP⟩
    case round =>
      clear HP
      obtain ⟨i, T, H, X, g, D, rfl, hi, hgk, HP⟩ := hrel
      subst hgk
      by_cases hlt : i < L.length
      · have hls := HP.out.ls
        obtain ⟨a9, cp9, e9, _, _, hrw⟩ := hls
        injection e9 with e9 e8 e7
        subst e9
        clear e8 e7
        obtain ⟨lb, lo, e9, hlbG, hlbl, hcs⟩ := hrw.resolve_left (fun e => by rw [e] at hlt; simp at hlt)
        subst e9
        obtain ⟨p, ep⟩ : ∃ p, p = L[i] := ⟨_, rfl⟩
        have hcp := hcs i hlt
        rw [← ep] at hcp
        have q0 : wr.cell? ⟨lb, lo + i * 9, none⟩ = some (.int .i64 p.kd) := hcp 0 _ rfl
        have q1 : wr.cell? ⟨lb, lo + i * 9 + 1, none⟩ = some (.int .i64 p.k.1) := hcp 1 _ rfl
        have q2 : wr.cell? ⟨lb, lo + i * 9 + 2, none⟩ = some (.int .i64 p.k.2) := hcp 2 _ rfl
        have q3 : wr.cell? ⟨lb, lo + i * 9 + 3, none⟩ = some (.int .i64 p.pa.1) := hcp 3 _ rfl
        have q4 : wr.cell? ⟨lb, lo + i * 9 + 4, none⟩ = some (.int .i64 p.pa.2) := hcp 4 _ rfl
        have q5 : wr.cell? ⟨lb, lo + i * 9 + 5, none⟩ = some (.int .i64 p.af.1) := hcp 5 _ rfl
        have q6 : wr.cell? ⟨lb, lo + i * 9 + 6, none⟩ = some (.int .i64 p.af.2) := hcp 6 _ rfl
        have q7 : wr.cell? ⟨lb, lo + i * 9 + 7, none⟩ = some (.string p.nm) := hcp 7 _ rfl
        have q8 : wr.cell? ⟨lb, lo + i * 9 + 8, none⟩ = some (.string p.vl) := hcp 8 _ rfl
        have Hep := hide9 ep
        have Hlt := hide9 hlt
        have Hnp : Hid (p.nm.size ≤ 281474976710656) := hide9 (Hnm.out p (by rw [ep]; exact List.getElem_mem hlt))
        have Hsp := hide9 (Hst.out p (by rw [ep]; exact List.getElem_mem hlt))
        clear hcs hcp ep hrw hlbG hlbl
        have hz : (wr.alloc (.cells #[.int .i64 0, .int .i64 0, .int .i64 0, .int .i64 0, .int .i64 0, .int .i64 0, .int .i64 0, .string ⟨#[]⟩, .string ⟨#[]⟩] 42)).heap[wr.heap.size]? = some (.cells #[.int .i64 0, .int .i64 0, .int .i64 0, .int .i64 0, .int .i64 0, .int .i64 0, .int .i64 0, .string ⟨#[]⟩, .string ⟨#[]⟩] 42) := heap_alloc_new _ _
        obtain ⟨W5, eW5⟩ : ∃ X, X = (wr.alloc (.cells #[.int .i64 0, .int .i64 0, .int .i64 0, .int .i64 0, .int .i64 0, .int .i64 0, .int .i64 0, .string ⟨#[]⟩, .string ⟨#[]⟩] 42)).setRow wr.heap.size #[.int .i64 p.kd, .int .i64 p.k.1, .int .i64 p.k.2, .int .i64 p.pa.1, .int .i64 p.pa.2, .int .i64 p.af.1, .int .i64 p.af.2, .string p.nm, .string p.vl] := ⟨_, rfl⟩
        have hb5 : Below wr.heap.size wr W5 := (by rw [eW5]; exact ((Below.refl _ _).alloc (Nat.le_refl _) _).grown (grown_setRow _ _ _) (by simp) (fun k e => by cases e; exact Nat.le_refl _))
        obtain ⟨kb, ekb⟩ : ∃ n, n = wr.heap.size := ⟨_, rfl⟩
        have HK : Hid (W5.heap[kb]? = some (.cells #[.int .i64 p.kd, .int .i64 p.k.1, .int .i64 p.k.2, .int .i64 p.pa.1, .int .i64 p.pa.2, .int .i64 p.af.1, .int .i64 p.af.2, .string p.nm, .string p.vl] 42)) := hide9 (by rw [eW5, ekb]; exact setRow_same hz)
        replace HP : Hid (ApS w t L (.slice (some ⟨lb, lo, none⟩) L.length cap0) B wb bm bh top sb i T H X g D W5) := HP.out.below hb5
        have HE5 := hide9 (And.intro eW5 ekb)
        have Hz := hide9 hz
        have k1 : (i : Int) < (L.length : Int) := by omega
        have k0 : (0 : Int) ≤ (i : Int) := by omega
        clear hz hb5 eW5 ekb
        go_upto_region 9 with (refine wpList_store_row rfl 42 (.tmp 11) (.tmp 29) rfl wr.heap.size 42 #[.int .i64 0, .int .i64 0, .int .i64 0, .int .i64 0, .int .i64 0, .int .i64 0, .int .i64 0, .string ⟨#[]⟩, .string ⟨#[]⟩] #[.int .i64 p.kd, .int .i64 p.k.1, .int .i64 p.k.2, .int .i64 p.pa.1, .int .i64 p.pa.2, .int .i64 p.af.1, .int .i64 p.af.2, .string p.nm, .string p.vl] rfl rfl Hz.out sizePa rfl (by simp [Value.oneCell']) ?_)
        rw [← HE5.out.1, ← HE5.out.2]
        clear HE5 Hz q0 q1 q2 q3 q4 q5 q6 q7 q8
        have b0 : W5.cell? ⟨kb, 0, none⟩ = some (.int .i64 p.kd) := (by rw [cell_of_row W5 kb 0 _ _ _ HK.out]; rfl)
        have b1 : W5.cell? ⟨kb, 1, none⟩ = some (.int .i64 p.k.1) := (by rw [cell_of_row W5 kb 1 _ _ _ HK.out]; rfl)
        have b2 : W5.cell? ⟨kb, 2, none⟩ = some (.int .i64 p.k.2) := (by rw [cell_of_row W5 kb 2 _ _ _ HK.out]; rfl)
        have b3 : W5.cell? ⟨kb, 3, none⟩ = some (.int .i64 p.pa.1) := (by rw [cell_of_row W5 kb 3 _ _ _ HK.out]; rfl)
        have b4 : W5.cell? ⟨kb, 4, none⟩ = some (.int .i64 p.pa.2) := (by rw [cell_of_row W5 kb 4 _ _ _ HK.out]; rfl)
        have b5 : W5.cell? ⟨kb, 5, none⟩ = some (.int .i64 p.af.1) := (by rw [cell_of_row W5 kb 5 _ _ _ HK.out]; rfl)
        have b6 : W5.cell? ⟨kb, 6, none⟩ = some (.int .i64 p.af.2) := (by rw [cell_of_row W5 kb 6 _ _ _ HK.out]; rfl)
        have b7 : W5.cell? ⟨kb, 7, none⟩ = some (.string p.nm) := (by rw [cell_of_row W5 kb 7 _ _ _ HK.out]; rfl)
        have b8 : W5.cell? ⟨kb, 8, none⟩ = some (.string p.vl) := (by rw [cell_of_row W5 kb 8 _ _ _ HK.out]; rfl)
        go_upto_region 10 with (go_at_call 12; refine (checkP_any p _ Hnp.out).mono ?_; rintro e w6 ⟨rfl, hb⟩)
        replace HP := hide9 (HP.out.below hb)
        replace HK : Hid (w6.heap[kb]? = some (.cells #[.int .i64 p.kd, .int .i64 p.k.1, .int .i64 p.k.2, .int .i64 p.pa.1, .int .i64 p.pa.2, .int .i64 p.af.1, .int .i64 p.af.2, .string p.nm, .string p.vl] 42)) := (hb.block _ (row_lt HK.out)).trans HK.out
        clear hb b0 b1 b2 b3 b4 b5 b6 b7 b8
        by_cases hp : chkP p = 0
        · have HPc := hide9 hp
          rw [hp]
          clear hp
          obtain ⟨n, f, hkn, hn10, hcel, heg, hcon⟩ := step_disp wb p HPc.out (fun e => (Hsp.out HPc.out).1 e) (fun e => (Hsp.out HPc.out).2 e)
          have HKn := hide9 hkn
          have Hcel := hide9 hcel
          have Heg := hide9 heg
          have Hcon := hide9 hcon
          have kn1 : (n : Int) < 10 := by omega
          have kn0 : (0 : Int) ≤ (n : Int) := by omega
          clear hkn hcel heg hcon
          go_wp2
          refine wp_region_held_drew (S := fun W' => W'.heap[sb]? = some (.cells #[.nilFunc, .func (.func 30) #[.pointer (some ⟨wb, 0, none⟩)] #[], .func (.func 31) #[.pointer (some ⟨wb, 0, none⟩)] #[], .func (.func 32) #[.pointer (some ⟨wb, 0, none⟩)] #[], .func (.func 33) #[.pointer (some ⟨wb, 0, none⟩)] #[], .func (.func 34) #[.pointer (some ⟨wb, 0, none⟩)] #[], .func (.func 35) #[.pointer (some ⟨wb, 0, none⟩)] #[], .func (.func 36) #[.pointer (some ⟨wb, 0, none⟩)] #[], .func (.func 37) #[.pointer (some ⟨wb, 0, none⟩)] #[], .func (.func 38) #[.pointer (some ⟨wb, 0, none⟩)] #[]] 47)) (by kernel_rfl) HP.out.sb (fun hHeld => ?_)
          obtain ⟨Uz1u0, eW⟩ : ∃ X, X = w6.drew := ⟨_, rfl⟩
          have hb : Below w6.heap.size w6 Uz1u0 := by rw [eW]; exact (Below.refl _ _).drew
          replace HP : Hid (ApS w t L (.slice (some ⟨lb, lo, none⟩) L.length cap0) B wb bm bh top sb i T H X g D Uz1u0) := HP.out.below hb
          replace HK : Hid (Uz1u0.heap[kb]? = some (.cells #[.int .i64 p.kd, .int .i64 p.k.1, .int .i64 p.k.2, .int .i64 p.pa.1, .int .i64 p.pa.2, .int .i64 p.af.1, .int .i64 p.af.2, .string p.nm, .string p.vl] 42)) := (hb.block _ (row_lt HK.out)).trans HK.out
          rw [← eW] at hHeld ⊢
          clear eW hb
          refine tkW 0 (some 34) (v := ?_) ?_ hHeld ?_
          rotate_left
          · (intro ww _; go_simp; try with_reducible rfl)
          refine wpAnyH_ready (rs := [1, 4]) (by kernel_rfl) (by simp) ?_
          refine AllReadyH.cons (o := ⟨some 35, _, _, _, _, _⟩) rfl (fun K hK => ?_) (AllReadyH.cons (o := ⟨some 38, _, _, _, _, _⟩) rfl (fun K hK => ?_) AllReadyH.nil)
          · have b0 : Uz1u0.cell? ⟨kb, 0, none⟩ = some (.int .i64 (n : Int)) := (by rw [cell_of_row Uz1u0 kb 0 _ _ _ HK.out, ← HKn.out]; rfl)
            have b1 : Uz1u0.cell? ⟨kb, 1, none⟩ = some (.int .i64 p.k.1) := (by rw [cell_of_row Uz1u0 kb 1 _ _ _ HK.out]; rfl)
            have b2 : Uz1u0.cell? ⟨kb, 2, none⟩ = some (.int .i64 p.k.2) := (by rw [cell_of_row Uz1u0 kb 2 _ _ _ HK.out]; rfl)
            have b3 : Uz1u0.cell? ⟨kb, 3, none⟩ = some (.int .i64 p.pa.1) := (by rw [cell_of_row Uz1u0 kb 3 _ _ _ HK.out]; rfl)
            have b4 : Uz1u0.cell? ⟨kb, 4, none⟩ = some (.int .i64 p.pa.2) := (by rw [cell_of_row Uz1u0 kb 4 _ _ _ HK.out]; rfl)
            have b5 : Uz1u0.cell? ⟨kb, 5, none⟩ = some (.int .i64 p.af.1) := (by rw [cell_of_row Uz1u0 kb 5 _ _ _ HK.out]; rfl)
            have b6 : Uz1u0.cell? ⟨kb, 6, none⟩ = some (.int .i64 p.af.2) := (by rw [cell_of_row Uz1u0 kb 6 _ _ _ HK.out]; rfl)
            have b7 : Uz1u0.cell? ⟨kb, 7, none⟩ = some (.string p.nm) := (by rw [cell_of_row Uz1u0 kb 7 _ _ _ HK.out]; rfl)
            have b8 : Uz1u0.cell? ⟨kb, 8, none⟩ = some (.string p.vl) := (by rw [cell_of_row Uz1u0 kb 8 _ _ _ HK.out]; rfl)
            have f0 : Uz1u0.cell? ⟨sb, n, none⟩ = some (.func (.func f) #[.pointer (some ⟨wb, 0, none⟩)] #[]) := (by rw [cell_of_row Uz1u0 sb n _ _ _ HP.out.sb]; exact Hcel.out)
            go_simp
            refine hK.out _ _ (hHeld) (fun hHeld2 => ?_)
            clear hK K hHeld
            have hHeld := hHeld2
            clear hHeld2
            (try simp only [Act.put, List.setIfInBounds_toArray, List.set_cons_zero, List.set_cons_succ])
            clear b0 b1 b2 b3 b4 b5 b6 b7 b8 f0
            refine tkW 2 (some 36) (v := ?_) ?_ hHeld ?_
            rotate_left
            · (intro ww hSw; (try dsimp only at hSw); go_simp; try with_reducible rfl)
            refine wpAnyH_ready (rs := [3, 4]) (by kernel_rfl) (by simp) ?_
            refine AllReadyH.cons (o := ⟨some 37, _, _, _, _, _⟩) rfl (fun K hK => ?_) (AllReadyH.cons (o := ⟨some 38, _, _, _, _, _⟩) rfl (fun K hK => ?_) AllReadyH.nil)
            · have b0 : Uz1u0.cell? ⟨kb, 0, none⟩ = some (.int .i64 (n : Int)) := (by rw [cell_of_row Uz1u0 kb 0 _ _ _ HK.out, ← HKn.out]; rfl)
              have b1 : Uz1u0.cell? ⟨kb, 1, none⟩ = some (.int .i64 p.k.1) := (by rw [cell_of_row Uz1u0 kb 1 _ _ _ HK.out]; rfl)
              have b2 : Uz1u0.cell? ⟨kb, 2, none⟩ = some (.int .i64 p.k.2) := (by rw [cell_of_row Uz1u0 kb 2 _ _ _ HK.out]; rfl)
              have b3 : Uz1u0.cell? ⟨kb, 3, none⟩ = some (.int .i64 p.pa.1) := (by rw [cell_of_row Uz1u0 kb 3 _ _ _ HK.out]; rfl)
              have b4 : Uz1u0.cell? ⟨kb, 4, none⟩ = some (.int .i64 p.pa.2) := (by rw [cell_of_row Uz1u0 kb 4 _ _ _ HK.out]; rfl)
              have b5 : Uz1u0.cell? ⟨kb, 5, none⟩ = some (.int .i64 p.af.1) := (by rw [cell_of_row Uz1u0 kb 5 _ _ _ HK.out]; rfl)
              have b6 : Uz1u0.cell? ⟨kb, 6, none⟩ = some (.int .i64 p.af.2) := (by rw [cell_of_row Uz1u0 kb 6 _ _ _ HK.out]; rfl)
              have b7 : Uz1u0.cell? ⟨kb, 7, none⟩ = some (.string p.nm) := (by rw [cell_of_row Uz1u0 kb 7 _ _ _ HK.out]; rfl)
              have b8 : Uz1u0.cell? ⟨kb, 8, none⟩ = some (.string p.vl) := (by rw [cell_of_row Uz1u0 kb 8 _ _ _ HK.out]; rfl)
              have f0 : Uz1u0.cell? ⟨sb, n, none⟩ = some (.func (.func f) #[.pointer (some ⟨wb, 0, none⟩)] #[]) := (by rw [cell_of_row Uz1u0 sb n _ _ _ HP.out.sb]; exact Hcel.out)
              go_simp
              refine hK.out _ _ (hHeld) (fun hHeld2 => ?_)
              clear hK K hHeld
              have hHeld := hHeld2
              clear hHeld2
              (try simp only [Act.put, List.setIfInBounds_toArray, List.set_cons_zero, List.set_cons_succ])
              clear b0 b1 b2 b3 b4 b5 b6 b7 b8 f0
              refine wpAnyH_ready (rs := [4]) (by kernel_rfl) (by simp) ?_
              refine AllReadyH.cons (o := ⟨some 38, _, _, _, _, _⟩) rfl (fun K hK => ?_) AllReadyH.nil
              have b0 : Uz1u0.cell? ⟨kb, 0, none⟩ = some (.int .i64 (n : Int)) := (by rw [cell_of_row Uz1u0 kb 0 _ _ _ HK.out, ← HKn.out]; rfl)
              have b1 : Uz1u0.cell? ⟨kb, 1, none⟩ = some (.int .i64 p.k.1) := (by rw [cell_of_row Uz1u0 kb 1 _ _ _ HK.out]; rfl)
              have b2 : Uz1u0.cell? ⟨kb, 2, none⟩ = some (.int .i64 p.k.2) := (by rw [cell_of_row Uz1u0 kb 2 _ _ _ HK.out]; rfl)
              have b3 : Uz1u0.cell? ⟨kb, 3, none⟩ = some (.int .i64 p.pa.1) := (by rw [cell_of_row Uz1u0 kb 3 _ _ _ HK.out]; rfl)
              have b4 : Uz1u0.cell? ⟨kb, 4, none⟩ = some (.int .i64 p.pa.2) := (by rw [cell_of_row Uz1u0 kb 4 _ _ _ HK.out]; rfl)
              have b5 : Uz1u0.cell? ⟨kb, 5, none⟩ = some (.int .i64 p.af.1) := (by rw [cell_of_row Uz1u0 kb 5 _ _ _ HK.out]; rfl)
              have b6 : Uz1u0.cell? ⟨kb, 6, none⟩ = some (.int .i64 p.af.2) := (by rw [cell_of_row Uz1u0 kb 6 _ _ _ HK.out]; rfl)
              have b7 : Uz1u0.cell? ⟨kb, 7, none⟩ = some (.string p.nm) := (by rw [cell_of_row Uz1u0 kb 7 _ _ _ HK.out]; rfl)
              have b8 : Uz1u0.cell? ⟨kb, 8, none⟩ = some (.string p.vl) := (by rw [cell_of_row Uz1u0 kb 8 _ _ _ HK.out]; rfl)
              have f0 : Uz1u0.cell? ⟨sb, n, none⟩ = some (.func (.func f) #[.pointer (some ⟨wb, 0, none⟩)] #[]) := (by rw [cell_of_row Uz1u0 sb n _ _ _ HP.out.sb]; exact Hcel.out)
              go_simp
              refine hK.out _ _ (hHeld) (fun hHeld2 => ?_)
              clear hK K hHeld
              have hHeld := hHeld2
              clear hHeld2
              (try simp only [Act.put, List.setIfInBounds_toArray, List.set_cons_zero, List.set_cons_succ])
              clear b0 b1 b2 b3 b4 b5 b6 b7 b8 f0
              refine wpAnyH_ready (rs := [5]) (by kernel_rfl) (by simp) ?_
              refine AllReadyH.cons (o := ⟨some 39, _, _, _, _, _⟩) rfl (fun K hK => ?_) AllReadyH.nil
              have heg := Heg.out
              have hc := Hcon.out B wb bm bh top X g D T H _ HP.out.m HP.out.p HP.out.ok
              unfold paV at hc
              rw [HKn.out] at hc
              go_simp
              refine hc.mono ?_
              rintro e Uz1u4 ⟨⟨rfl, hs⟩, hb⟩
              clear heg hc
              have HSt := hide9 hs
              have HBt : Hid (BelT B Uz1u0 Uz1u4) := hide9 hb
              have HP0 : Hid (ApS w t L (.slice (some ⟨lb, lo, none⟩) L.length cap0) B wb bm bh top sb i T H X g D Uz1u0) := HP
              have HSb2 : Hid (Uz1u4.heap[sb]? = some (.cells #[.nilFunc, .func (.func 30) #[.pointer (some ⟨wb, 0, none⟩)] #[], .func (.func 31) #[.pointer (some ⟨wb, 0, none⟩)] #[], .func (.func 32) #[.pointer (some ⟨wb, 0, none⟩)] #[], .func (.func 33) #[.pointer (some ⟨wb, 0, none⟩)] #[], .func (.func 34) #[.pointer (some ⟨wb, 0, none⟩)] #[], .func (.func 35) #[.pointer (some ⟨wb, 0, none⟩)] #[], .func (.func 36) #[.pointer (some ⟨wb, 0, none⟩)] #[], .func (.func 37) #[.pointer (some ⟨wb, 0, none⟩)] #[], .func (.func 38) #[.pointer (some ⟨wb, 0, none⟩)] #[]] 47)) := hide9 (hb.f _ _ HP.out.sb)
              have HR2 : Hid (Uz1u4.heap[w.heap.size + 1]? = some (.cells #[.int .i64 0, .int .i64 0, .string ⟨#[]⟩, .string ⟨#[]⟩, .slice none 0 0, .slice none 0 0] 27) ∧ Below w.heap.size w Uz1u4) := hide9 ⟨(hb.b.block _ HP.out.rlt).trans HP.out.rb, HP.out.bel.trans (hb.b.mono (by have := HP.out.rlt; omega))⟩
              clear hs hb HP
              (try go_wp2_with fail)
              refine hK.out _ _ (HSb2.out) (fun hHeld2 => ?_)
              clear hK K hHeld
              have hHeld := hHeld2
              clear hHeld2
              (try simp only [Act.put, List.setIfInBounds_toArray, List.set_cons_zero, List.set_cons_succ])
              refine tkW 6 (some 12) (v := ?_) ?_ hHeld ?_
              rotate_left
              · (intro ww _; go_simp; try with_reducible rfl)
              refine wpAnyH_done (by kernel_rfl) ?_ _
              clear hHeld
              obtain ⟨se, ese⟩ : ∃ c, c = (stepU p T H).1 := ⟨_, rfl⟩
              by_cases hz : se = 0
              · have hz2 : (stepU p T H).1 = 0 := by rw [← ese]; exact hz
                obtain ⟨X2, g2, D2, hS2⟩ := HSt.out hz2
                have HP2 := hide9 (HP0.out.step Hlt.out Hep.out HPc.out hz2 hS2 HBt.out)
                rw [← ese, hz]
                clear ese hz hz2 hS2
                have nw1 : IntKind.i64.wrap ((i : Int) + 1) = (i : Int) + 1 := by rw [IntKind.wrap_i64]; omega
                go_wp2
                go_roundg (L.length - (i + 1))
                case measure => omega
                case rel => exact ⟨i + 1, _, _, X2, g2, D2, by go_num, by omega, rfl, HP2⟩
              · have HRz := hide9 (HP0.out.err HC.out Hlt.out Hep.out HPc.out (by rw [← ese]; exact hz))
                rw [← ese] at HRz ⊢
                have hq : (se == 0) = false := by simpa using hz
                have hq2 : (!(se == 0)) = true := by rw [hq]; rfl
                have HR := hide9 HR2.out.1
                have HE9 : Hid ((Uz1u4.setRow (w.heap.size + 1) #[.int .i64 0, .int .i64 0, .string ⟨#[]⟩, .string ⟨#[]⟩, .slice none 0 0, .slice none 0 0]).heap[w.heap.size + 1]? = some (.cells #[.int .i64 0, .int .i64 0, .string ⟨#[]⟩, .string ⟨#[]⟩, .slice none 0 0, .slice none 0 0] 27)) := setRow_same HR.out
                have HB9 : Hid (Below w.heap.size w (Uz1u4.setRow (w.heap.size + 1) #[.int .i64 0, .int .i64 0, .string ⟨#[]⟩, .string ⟨#[]⟩, .slice none 0 0, .slice none 0 0])) := HR2.out.2.grown (grown_setRow _ _ _) HR2.out.2.size (fun k e => by cases e; omega)
                clear ese hz
                go_wp2_with (refine wpList_store_row rfl 27 (.tmp 4) (.tmp 42) rfl (w.heap.size + 1) 27 #[.int .i64 0, .int .i64 0, .string ⟨#[]⟩, .string ⟨#[]⟩, .slice none 0 0, .slice none 0 0] #[.int .i64 0, .int .i64 0, .string ⟨#[]⟩, .string ⟨#[]⟩, .slice none 0 0, .slice none 0 0] rfl rfl HR.out sizeVN rfl (by simp [Value.oneCell']) ?_)
                (try rw [Exit.noGoto_ret])
                refine bodyPost_ret (results_cell_row3 rfl _ _ (w.heap.size + 1) _ _ _ _ rfl HE9.out Try.underlying27 rfl sizeVN rfl rfl) rfl ?_
                exact ApP.zero HRz.out HB9.out
            · have b0 : Uz1u0.cell? ⟨kb, 0, none⟩ = some (.int .i64 (n : Int)) := (by rw [cell_of_row Uz1u0 kb 0 _ _ _ HK.out, ← HKn.out]; rfl)
              have b1 : Uz1u0.cell? ⟨kb, 1, none⟩ = some (.int .i64 p.k.1) := (by rw [cell_of_row Uz1u0 kb 1 _ _ _ HK.out]; rfl)
              have b2 : Uz1u0.cell? ⟨kb, 2, none⟩ = some (.int .i64 p.k.2) := (by rw [cell_of_row Uz1u0 kb 2 _ _ _ HK.out]; rfl)
              have b3 : Uz1u0.cell? ⟨kb, 3, none⟩ = some (.int .i64 p.pa.1) := (by rw [cell_of_row Uz1u0 kb 3 _ _ _ HK.out]; rfl)
              have b4 : Uz1u0.cell? ⟨kb, 4, none⟩ = some (.int .i64 p.pa.2) := (by rw [cell_of_row Uz1u0 kb 4 _ _ _ HK.out]; rfl)
              have b5 : Uz1u0.cell? ⟨kb, 5, none⟩ = some (.int .i64 p.af.1) := (by rw [cell_of_row Uz1u0 kb 5 _ _ _ HK.out]; rfl)
              have b6 : Uz1u0.cell? ⟨kb, 6, none⟩ = some (.int .i64 p.af.2) := (by rw [cell_of_row Uz1u0 kb 6 _ _ _ HK.out]; rfl)
              have b7 : Uz1u0.cell? ⟨kb, 7, none⟩ = some (.string p.nm) := (by rw [cell_of_row Uz1u0 kb 7 _ _ _ HK.out]; rfl)
              have b8 : Uz1u0.cell? ⟨kb, 8, none⟩ = some (.string p.vl) := (by rw [cell_of_row Uz1u0 kb 8 _ _ _ HK.out]; rfl)
              have f0 : Uz1u0.cell? ⟨sb, n, none⟩ = some (.func (.func f) #[.pointer (some ⟨wb, 0, none⟩)] #[]) := (by rw [cell_of_row Uz1u0 sb n _ _ _ HP.out.sb]; exact Hcel.out)
              go_simp
              refine hK.out _ _ (hHeld) (fun hHeld2 => ?_)
              clear hK K hHeld
              have hHeld := hHeld2
              clear hHeld2
              (try simp only [Act.put, List.setIfInBounds_toArray, List.set_cons_zero, List.set_cons_succ])
              clear b0 b1 b2 b3 b4 b5 b6 b7 b8 f0
              refine wpAnyH_ready (rs := [3]) (by kernel_rfl) (by simp) ?_
              refine AllReadyH.cons (o := ⟨some 37, _, _, _, _, _⟩) rfl (fun K hK => ?_) AllReadyH.nil
              have b0 : Uz1u0.cell? ⟨kb, 0, none⟩ = some (.int .i64 (n : Int)) := (by rw [cell_of_row Uz1u0 kb 0 _ _ _ HK.out, ← HKn.out]; rfl)
              have b1 : Uz1u0.cell? ⟨kb, 1, none⟩ = some (.int .i64 p.k.1) := (by rw [cell_of_row Uz1u0 kb 1 _ _ _ HK.out]; rfl)
              have b2 : Uz1u0.cell? ⟨kb, 2, none⟩ = some (.int .i64 p.k.2) := (by rw [cell_of_row Uz1u0 kb 2 _ _ _ HK.out]; rfl)
              have b3 : Uz1u0.cell? ⟨kb, 3, none⟩ = some (.int .i64 p.pa.1) := (by rw [cell_of_row Uz1u0 kb 3 _ _ _ HK.out]; rfl)
              have b4 : Uz1u0.cell? ⟨kb, 4, none⟩ = some (.int .i64 p.pa.2) := (by rw [cell_of_row Uz1u0 kb 4 _ _ _ HK.out]; rfl)
              have b5 : Uz1u0.cell? ⟨kb, 5, none⟩ = some (.int .i64 p.af.1) := (by rw [cell_of_row Uz1u0 kb 5 _ _ _ HK.out]; rfl)
              have b6 : Uz1u0.cell? ⟨kb, 6, none⟩ = some (.int .i64 p.af.2) := (by rw [cell_of_row Uz1u0 kb 6 _ _ _ HK.out]; rfl)
              have b7 : Uz1u0.cell? ⟨kb, 7, none⟩ = some (.string p.nm) := (by rw [cell_of_row Uz1u0 kb 7 _ _ _ HK.out]; rfl)
              have b8 : Uz1u0.cell? ⟨kb, 8, none⟩ = some (.string p.vl) := (by rw [cell_of_row Uz1u0 kb 8 _ _ _ HK.out]; rfl)
              have f0 : Uz1u0.cell? ⟨sb, n, none⟩ = some (.func (.func f) #[.pointer (some ⟨wb, 0, none⟩)] #[]) := (by rw [cell_of_row Uz1u0 sb n _ _ _ HP.out.sb]; exact Hcel.out)
              go_simp
              refine hK.out _ _ (hHeld) (fun hHeld2 => ?_)
              clear hK K hHeld
              have hHeld := hHeld2
              clear hHeld2
              (try simp only [Act.put, List.setIfInBounds_toArray, List.set_cons_zero, List.set_cons_succ])
              clear b0 b1 b2 b3 b4 b5 b6 b7 b8 f0
              refine wpAnyH_ready (rs := [5]) (by kernel_rfl) (by simp) ?_
              refine AllReadyH.cons (o := ⟨some 39, _, _, _, _, _⟩) rfl (fun K hK => ?_) AllReadyH.nil
              have heg := Heg.out
              have hc := Hcon.out B wb bm bh top X g D T H _ HP.out.m HP.out.p HP.out.ok
              unfold paV at hc
              rw [HKn.out] at hc
              go_simp
              refine hc.mono ?_
              rintro e Uz1u7 ⟨⟨rfl, hs⟩, hb⟩
              clear heg hc
              have HSt := hide9 hs
              have HBt : Hid (BelT B Uz1u0 Uz1u7) := hide9 hb
              have HP0 : Hid (ApS w t L (.slice (some ⟨lb, lo, none⟩) L.length cap0) B wb bm bh top sb i T H X g D Uz1u0) := HP
              have HSb2 : Hid (Uz1u7.heap[sb]? = some (.cells #[.nilFunc, .func (.func 30) #[.pointer (some ⟨wb, 0, none⟩)] #[], .func (.func 31) #[.pointer (some ⟨wb, 0, none⟩)] #[], .func (.func 32) #[.pointer (some ⟨wb, 0, none⟩)] #[], .func (.func 33) #[.pointer (some ⟨wb, 0, none⟩)] #[], .func (.func 34) #[.pointer (some ⟨wb, 0, none⟩)] #[], .func (.func 35) #[.pointer (some ⟨wb, 0, none⟩)] #[], .func (.func 36) #[.pointer (some ⟨wb, 0, none⟩)] #[], .func (.func 37) #[.pointer (some ⟨wb, 0, none⟩)] #[], .func (.func 38) #[.pointer (some ⟨wb, 0, none⟩)] #[]] 47)) := hide9 (hb.f _ _ HP.out.sb)
              have HR2 : Hid (Uz1u7.heap[w.heap.size + 1]? = some (.cells #[.int .i64 0, .int .i64 0, .string ⟨#[]⟩, .string ⟨#[]⟩, .slice none 0 0, .slice none 0 0] 27) ∧ Below w.heap.size w Uz1u7) := hide9 ⟨(hb.b.block _ HP.out.rlt).trans HP.out.rb, HP.out.bel.trans (hb.b.mono (by have := HP.out.rlt; omega))⟩
              clear hs hb HP
              (try go_wp2_with fail)
              refine hK.out _ _ (HSb2.out) (fun hHeld2 => ?_)
              clear hK K hHeld
              have hHeld := hHeld2
              clear hHeld2
              (try simp only [Act.put, List.setIfInBounds_toArray, List.set_cons_zero, List.set_cons_succ])
              refine tkW 6 (some 12) (v := ?_) ?_ hHeld ?_
              rotate_left
              · (intro ww _; go_simp; try with_reducible rfl)
              refine wpAnyH_done (by kernel_rfl) ?_ _
              clear hHeld
              obtain ⟨se, ese⟩ : ∃ c, c = (stepU p T H).1 := ⟨_, rfl⟩
              by_cases hz : se = 0
              · have hz2 : (stepU p T H).1 = 0 := by rw [← ese]; exact hz
                obtain ⟨X2, g2, D2, hS2⟩ := HSt.out hz2
                have HP2 := hide9 (HP0.out.step Hlt.out Hep.out HPc.out hz2 hS2 HBt.out)
                rw [← ese, hz]
                clear ese hz hz2 hS2
                have nw1 : IntKind.i64.wrap ((i : Int) + 1) = (i : Int) + 1 := by rw [IntKind.wrap_i64]; omega
                go_wp2
                go_roundg (L.length - (i + 1))
                case measure => omega
                case rel => exact ⟨i + 1, _, _, X2, g2, D2, by go_num, by omega, rfl, HP2⟩
              · have HRz := hide9 (HP0.out.err HC.out Hlt.out Hep.out HPc.out (by rw [← ese]; exact hz))
                rw [← ese] at HRz ⊢
                have hq : (se == 0) = false := by simpa using hz
                have hq2 : (!(se == 0)) = true := by rw [hq]; rfl
                have HR := hide9 HR2.out.1
                have HE9 : Hid ((Uz1u7.setRow (w.heap.size + 1) #[.int .i64 0, .int .i64 0, .string ⟨#[]⟩, .string ⟨#[]⟩, .slice none 0 0, .slice none 0 0]).heap[w.heap.size + 1]? = some (.cells #[.int .i64 0, .int .i64 0, .string ⟨#[]⟩, .string ⟨#[]⟩, .slice none 0 0, .slice none 0 0] 27)) := setRow_same HR.out
                have HB9 : Hid (Below w.heap.size w (Uz1u7.setRow (w.heap.size + 1) #[.int .i64 0, .int .i64 0, .string ⟨#[]⟩, .string ⟨#[]⟩, .slice none 0 0, .slice none 0 0])) := HR2.out.2.grown (grown_setRow _ _ _) HR2.out.2.size (fun k e => by cases e; omega)
                clear ese hz
                go_wp2_with (refine wpList_store_row rfl 27 (.tmp 4) (.tmp 42) rfl (w.heap.size + 1) 27 #[.int .i64 0, .int .i64 0, .string ⟨#[]⟩, .string ⟨#[]⟩, .slice none 0 0, .slice none 0 0] #[.int .i64 0, .int .i64 0, .string ⟨#[]⟩, .string ⟨#[]⟩, .slice none 0 0, .slice none 0 0] rfl rfl HR.out sizeVN rfl (by simp [Value.oneCell']) ?_)
                (try rw [Exit.noGoto_ret])
                refine bodyPost_ret (results_cell_row3 rfl _ _ (w.heap.size + 1) _ _ _ _ rfl HE9.out Try.underlying27 rfl sizeVN rfl rfl) rfl ?_
                exact ApP.zero HRz.out HB9.out
          · have b0 : Uz1u0.cell? ⟨kb, 0, none⟩ = some (.int .i64 (n : Int)) := (by rw [cell_of_row Uz1u0 kb 0 _ _ _ HK.out, ← HKn.out]; rfl)
            have b1 : Uz1u0.cell? ⟨kb, 1, none⟩ = some (.int .i64 p.k.1) := (by rw [cell_of_row Uz1u0 kb 1 _ _ _ HK.out]; rfl)
            have b2 : Uz1u0.cell? ⟨kb, 2, none⟩ = some (.int .i64 p.k.2) := (by rw [cell_of_row Uz1u0 kb 2 _ _ _ HK.out]; rfl)
            have b3 : Uz1u0.cell? ⟨kb, 3, none⟩ = some (.int .i64 p.pa.1) := (by rw [cell_of_row Uz1u0 kb 3 _ _ _ HK.out]; rfl)
            have b4 : Uz1u0.cell? ⟨kb, 4, none⟩ = some (.int .i64 p.pa.2) := (by rw [cell_of_row Uz1u0 kb 4 _ _ _ HK.out]; rfl)
            have b5 : Uz1u0.cell? ⟨kb, 5, none⟩ = some (.int .i64 p.af.1) := (by rw [cell_of_row Uz1u0 kb 5 _ _ _ HK.out]; rfl)
            have b6 : Uz1u0.cell? ⟨kb, 6, none⟩ = some (.int .i64 p.af.2) := (by rw [cell_of_row Uz1u0 kb 6 _ _ _ HK.out]; rfl)
            have b7 : Uz1u0.cell? ⟨kb, 7, none⟩ = some (.string p.nm) := (by rw [cell_of_row Uz1u0 kb 7 _ _ _ HK.out]; rfl)
            have b8 : Uz1u0.cell? ⟨kb, 8, none⟩ = some (.string p.vl) := (by rw [cell_of_row Uz1u0 kb 8 _ _ _ HK.out]; rfl)
            have f0 : Uz1u0.cell? ⟨sb, n, none⟩ = some (.func (.func f) #[.pointer (some ⟨wb, 0, none⟩)] #[]) := (by rw [cell_of_row Uz1u0 sb n _ _ _ HP.out.sb]; exact Hcel.out)
            go_simp
            refine hK.out _ _ (hHeld) (fun hHeld2 => ?_)
            clear hK K hHeld
            have hHeld := hHeld2
            clear hHeld2
            (try simp only [Act.put, List.setIfInBounds_toArray, List.set_cons_zero, List.set_cons_succ])
            clear b0 b1 b2 b3 b4 b5 b6 b7 b8 f0
            refine wpAnyH_ready (rs := [1]) (by kernel_rfl) (by simp) ?_
            refine AllReadyH.cons (o := ⟨some 35, _, _, _, _, _⟩) rfl (fun K hK => ?_) AllReadyH.nil
            have b0 : Uz1u0.cell? ⟨kb, 0, none⟩ = some (.int .i64 (n : Int)) := (by rw [cell_of_row Uz1u0 kb 0 _ _ _ HK.out, ← HKn.out]; rfl)
            have b1 : Uz1u0.cell? ⟨kb, 1, none⟩ = some (.int .i64 p.k.1) := (by rw [cell_of_row Uz1u0 kb 1 _ _ _ HK.out]; rfl)
            have b2 : Uz1u0.cell? ⟨kb, 2, none⟩ = some (.int .i64 p.k.2) := (by rw [cell_of_row Uz1u0 kb 2 _ _ _ HK.out]; rfl)
            have b3 : Uz1u0.cell? ⟨kb, 3, none⟩ = some (.int .i64 p.pa.1) := (by rw [cell_of_row Uz1u0 kb 3 _ _ _ HK.out]; rfl)
            have b4 : Uz1u0.cell? ⟨kb, 4, none⟩ = some (.int .i64 p.pa.2) := (by rw [cell_of_row Uz1u0 kb 4 _ _ _ HK.out]; rfl)
            have b5 : Uz1u0.cell? ⟨kb, 5, none⟩ = some (.int .i64 p.af.1) := (by rw [cell_of_row Uz1u0 kb 5 _ _ _ HK.out]; rfl)
            have b6 : Uz1u0.cell? ⟨kb, 6, none⟩ = some (.int .i64 p.af.2) := (by rw [cell_of_row Uz1u0 kb 6 _ _ _ HK.out]; rfl)
            have b7 : Uz1u0.cell? ⟨kb, 7, none⟩ = some (.string p.nm) := (by rw [cell_of_row Uz1u0 kb 7 _ _ _ HK.out]; rfl)
            have b8 : Uz1u0.cell? ⟨kb, 8, none⟩ = some (.string p.vl) := (by rw [cell_of_row Uz1u0 kb 8 _ _ _ HK.out]; rfl)
            have f0 : Uz1u0.cell? ⟨sb, n, none⟩ = some (.func (.func f) #[.pointer (some ⟨wb, 0, none⟩)] #[]) := (by rw [cell_of_row Uz1u0 sb n _ _ _ HP.out.sb]; exact Hcel.out)
            go_simp
            refine hK.out _ _ (hHeld) (fun hHeld2 => ?_)
            clear hK K hHeld
            have hHeld := hHeld2
            clear hHeld2
            (try simp only [Act.put, List.setIfInBounds_toArray, List.set_cons_zero, List.set_cons_succ])
            clear b0 b1 b2 b3 b4 b5 b6 b7 b8 f0
            refine tkW 2 (some 36) (v := ?_) ?_ hHeld ?_
            rotate_left
            · (intro ww hSw; (try dsimp only at hSw); go_simp; try with_reducible rfl)
            refine wpAnyH_ready (rs := [3]) (by kernel_rfl) (by simp) ?_
            refine AllReadyH.cons (o := ⟨some 37, _, _, _, _, _⟩) rfl (fun K hK => ?_) AllReadyH.nil
            have b0 : Uz1u0.cell? ⟨kb, 0, none⟩ = some (.int .i64 (n : Int)) := (by rw [cell_of_row Uz1u0 kb 0 _ _ _ HK.out, ← HKn.out]; rfl)
            have b1 : Uz1u0.cell? ⟨kb, 1, none⟩ = some (.int .i64 p.k.1) := (by rw [cell_of_row Uz1u0 kb 1 _ _ _ HK.out]; rfl)
            have b2 : Uz1u0.cell? ⟨kb, 2, none⟩ = some (.int .i64 p.k.2) := (by rw [cell_of_row Uz1u0 kb 2 _ _ _ HK.out]; rfl)
            have b3 : Uz1u0.cell? ⟨kb, 3, none⟩ = some (.int .i64 p.pa.1) := (by rw [cell_of_row Uz1u0 kb 3 _ _ _ HK.out]; rfl)
            have b4 : Uz1u0.cell? ⟨kb, 4, none⟩ = some (.int .i64 p.pa.2) := (by rw [cell_of_row Uz1u0 kb 4 _ _ _ HK.out]; rfl)
            have b5 : Uz1u0.cell? ⟨kb, 5, none⟩ = some (.int .i64 p.af.1) := (by rw [cell_of_row Uz1u0 kb 5 _ _ _ HK.out]; rfl)
            have b6 : Uz1u0.cell? ⟨kb, 6, none⟩ = some (.int .i64 p.af.2) := (by rw [cell_of_row Uz1u0 kb 6 _ _ _ HK.out]; rfl)
            have b7 : Uz1u0.cell? ⟨kb, 7, none⟩ = some (.string p.nm) := (by rw [cell_of_row Uz1u0 kb 7 _ _ _ HK.out]; rfl)
            have b8 : Uz1u0.cell? ⟨kb, 8, none⟩ = some (.string p.vl) := (by rw [cell_of_row Uz1u0 kb 8 _ _ _ HK.out]; rfl)
            have f0 : Uz1u0.cell? ⟨sb, n, none⟩ = some (.func (.func f) #[.pointer (some ⟨wb, 0, none⟩)] #[]) := (by rw [cell_of_row Uz1u0 sb n _ _ _ HP.out.sb]; exact Hcel.out)
            go_simp
            refine hK.out _ _ (hHeld) (fun hHeld2 => ?_)
            clear hK K hHeld
            have hHeld := hHeld2
            clear hHeld2
            (try simp only [Act.put, List.setIfInBounds_toArray, List.set_cons_zero, List.set_cons_succ])
            clear b0 b1 b2 b3 b4 b5 b6 b7 b8 f0
            refine wpAnyH_ready (rs := [5]) (by kernel_rfl) (by simp) ?_
            refine AllReadyH.cons (o := ⟨some 39, _, _, _, _, _⟩) rfl (fun K hK => ?_) AllReadyH.nil
            have heg := Heg.out
            have hc := Hcon.out B wb bm bh top X g D T H _ HP.out.m HP.out.p HP.out.ok
            unfold paV at hc
            rw [HKn.out] at hc
            go_simp
            refine hc.mono ?_
            rintro e Uz1u11 ⟨⟨rfl, hs⟩, hb⟩
            clear heg hc
            have HSt := hide9 hs
            have HBt : Hid (BelT B Uz1u0 Uz1u11) := hide9 hb
            have HP0 : Hid (ApS w t L (.slice (some ⟨lb, lo, none⟩) L.length cap0) B wb bm bh top sb i T H X g D Uz1u0) := HP
            have HSb2 : Hid (Uz1u11.heap[sb]? = some (.cells #[.nilFunc, .func (.func 30) #[.pointer (some ⟨wb, 0, none⟩)] #[], .func (.func 31) #[.pointer (some ⟨wb, 0, none⟩)] #[], .func (.func 32) #[.pointer (some ⟨wb, 0, none⟩)] #[], .func (.func 33) #[.pointer (some ⟨wb, 0, none⟩)] #[], .func (.func 34) #[.pointer (some ⟨wb, 0, none⟩)] #[], .func (.func 35) #[.pointer (some ⟨wb, 0, none⟩)] #[], .func (.func 36) #[.pointer (some ⟨wb, 0, none⟩)] #[], .func (.func 37) #[.pointer (some ⟨wb, 0, none⟩)] #[], .func (.func 38) #[.pointer (some ⟨wb, 0, none⟩)] #[]] 47)) := hide9 (hb.f _ _ HP.out.sb)
            have HR2 : Hid (Uz1u11.heap[w.heap.size + 1]? = some (.cells #[.int .i64 0, .int .i64 0, .string ⟨#[]⟩, .string ⟨#[]⟩, .slice none 0 0, .slice none 0 0] 27) ∧ Below w.heap.size w Uz1u11) := hide9 ⟨(hb.b.block _ HP.out.rlt).trans HP.out.rb, HP.out.bel.trans (hb.b.mono (by have := HP.out.rlt; omega))⟩
            clear hs hb HP
            (try go_wp2_with fail)
            refine hK.out _ _ (HSb2.out) (fun hHeld2 => ?_)
            clear hK K hHeld
            have hHeld := hHeld2
            clear hHeld2
            (try simp only [Act.put, List.setIfInBounds_toArray, List.set_cons_zero, List.set_cons_succ])
            refine tkW 6 (some 12) (v := ?_) ?_ hHeld ?_
            rotate_left
            · (intro ww _; go_simp; try with_reducible rfl)
            refine wpAnyH_done (by kernel_rfl) ?_ _
            clear hHeld
            obtain ⟨se, ese⟩ : ∃ c, c = (stepU p T H).1 := ⟨_, rfl⟩
            by_cases hz : se = 0
            · have hz2 : (stepU p T H).1 = 0 := by rw [← ese]; exact hz
              obtain ⟨X2, g2, D2, hS2⟩ := HSt.out hz2
              have HP2 := hide9 (HP0.out.step Hlt.out Hep.out HPc.out hz2 hS2 HBt.out)
              rw [← ese, hz]
              clear ese hz hz2 hS2
              have nw1 : IntKind.i64.wrap ((i : Int) + 1) = (i : Int) + 1 := by rw [IntKind.wrap_i64]; omega
              go_wp2
              go_roundg (L.length - (i + 1))
              case measure => omega
              case rel => exact ⟨i + 1, _, _, X2, g2, D2, by go_num, by omega, rfl, HP2⟩
            · have HRz := hide9 (HP0.out.err HC.out Hlt.out Hep.out HPc.out (by rw [← ese]; exact hz))
              rw [← ese] at HRz ⊢
              have hq : (se == 0) = false := by simpa using hz
              have hq2 : (!(se == 0)) = true := by rw [hq]; rfl
              have HR := hide9 HR2.out.1
              have HE9 : Hid ((Uz1u11.setRow (w.heap.size + 1) #[.int .i64 0, .int .i64 0, .string ⟨#[]⟩, .string ⟨#[]⟩, .slice none 0 0, .slice none 0 0]).heap[w.heap.size + 1]? = some (.cells #[.int .i64 0, .int .i64 0, .string ⟨#[]⟩, .string ⟨#[]⟩, .slice none 0 0, .slice none 0 0] 27)) := setRow_same HR.out
              have HB9 : Hid (Below w.heap.size w (Uz1u11.setRow (w.heap.size + 1) #[.int .i64 0, .int .i64 0, .string ⟨#[]⟩, .string ⟨#[]⟩, .slice none 0 0, .slice none 0 0])) := HR2.out.2.grown (grown_setRow _ _ _) HR2.out.2.size (fun k e => by cases e; omega)
              clear ese hz
              go_wp2_with (refine wpList_store_row rfl 27 (.tmp 4) (.tmp 42) rfl (w.heap.size + 1) 27 #[.int .i64 0, .int .i64 0, .string ⟨#[]⟩, .string ⟨#[]⟩, .slice none 0 0, .slice none 0 0] #[.int .i64 0, .int .i64 0, .string ⟨#[]⟩, .string ⟨#[]⟩, .slice none 0 0, .slice none 0 0] rfl rfl HR.out sizeVN rfl (by simp [Value.oneCell']) ?_)
              (try rw [Exit.noGoto_ret])
              refine bodyPost_ret (results_cell_row3 rfl _ _ (w.heap.size + 1) _ _ _ _ rfl HE9.out Try.underlying27 rfl sizeVN rfl rfl) rfl ?_
              exact ApP.zero HRz.out HB9.out
        · have HRz := hide9 (HP.out.bad HC.out Hlt.out Hep.out hp)
          obtain ⟨c, ec⟩ : ∃ c, c = chkP p := ⟨_, rfl⟩
          rw [← ec] at HRz hp ⊢
          have hq : (c == 0) = false := by simpa using hp
          have hq2 : (!(c == 0)) = true := by rw [hq]; rfl
          have HR := hide9 HP.out.rb
          have HE9 : Hid ((w6.setRow (w.heap.size + 1) #[.int .i64 0, .int .i64 0, .string ⟨#[]⟩, .string ⟨#[]⟩, .slice none 0 0, .slice none 0 0]).heap[w.heap.size + 1]? = some (.cells #[.int .i64 0, .int .i64 0, .string ⟨#[]⟩, .string ⟨#[]⟩, .slice none 0 0, .slice none 0 0] 27)) := setRow_same HR.out
          have HB9 : Hid (Below w.heap.size w (w6.setRow (w.heap.size + 1) #[.int .i64 0, .int .i64 0, .string ⟨#[]⟩, .string ⟨#[]⟩, .slice none 0 0, .slice none 0 0])) := HP.out.bel.grown (grown_setRow _ _ _) HP.out.bel.size (fun k e => by cases e; omega)
          clear ec hp
          go_wp2_with (refine wpList_store_row rfl 27 (.tmp 4) (.tmp 42) rfl (w.heap.size + 1) 27 #[.int .i64 0, .int .i64 0, .string ⟨#[]⟩, .string ⟨#[]⟩, .slice none 0 0, .slice none 0 0] #[.int .i64 0, .int .i64 0, .string ⟨#[]⟩, .string ⟨#[]⟩, .slice none 0 0, .slice none 0 0] rfl rfl HR.out sizeVN rfl (by simp [Value.oneCell']) ?_)
          (try rw [Exit.noGoto_ret])
          refine bodyPost_ret (results_cell_row3 rfl _ _ (w.heap.size + 1) _ _ _ _ rfl HE9.out Try.underlying27 rfl sizeVN rfl rfl) rfl ?_
          exact ApP.zero HRz.out HB9.out
      · obtain rfl : i = L.length := by omega
        have hfin := HP.out.fin HC.out
        have c2 : wr.cell? ⟨wb, 2, none⟩ = some (.pointer (some ⟨bh, 0, none⟩)) := HP.out.m.c2
        cases hH : H with
        | nil =>
          have hC0 : g.C bh = [] := (by have h1 := RtL.len HP.out.p.rh; rw [hH] at h1; exact List.eq_nil_of_length_eq_zero h1)
          have u9 : wr.cell? ⟨bh, 9, none⟩ = some (.pointer none) := (by have h9 := HP.out.m.mem.cfs HP.out.p.xh; rw [HP.out.p.lk.fst bh HP.out.p.xh, hC0] at h9; exact h9)
          rw [if_pos hH] at hfin
          have HRz := hide9 hfin
          have c1 : wr.cell? ⟨wb, 1, none⟩ = some (.pointer (some ⟨top, 0, none⟩)) := HP.out.m.c1
          have htX := HP.out.p.topX
          have HtX := hide9 htX
          clear hC0 hfin htX hH
          go_wp2_with (first | (go_at_call 16; refine (tree_n X g T.sz T top _ (Nat.le_refl _) HP.out.trG HtX.out.1.1 HtX.out.2.2.1 HP.out.bounds).mono ?_; rintro e w7 ⟨v, F, rfl, hv, hF, hb⟩; obtain ⟨ya, cy, yk, dy, e7, fy⟩ := hv.form; subst e7; have HFy := hide9 fy; have HFF := hide9 hF; have HR : Hid (w7.heap[w.heap.size + 1]? = some (.cells #[.int .i64 0, .int .i64 0, .string ⟨#[]⟩, .string ⟨#[]⟩, .slice none 0 0, .slice none 0 0] 27)) := hide9 ((hb.block _ (row_lt HP.out.rb)).trans HP.out.rb); have HB7 : Hid (Below w.heap.size w w7 ∧ wr.heap.size ≤ w7.heap.size) := hide9 ⟨HP.out.bel.trans (hb.mono HP.out.bel.size), hb.size⟩; clear hv hF fy hb) | (refine wpList_store_row rfl 27 (.tmp 4) (.tmp 61) rfl (w.heap.size + 1) 27 #[.int .i64 0, .int .i64 0, .string ⟨#[]⟩, .string ⟨#[]⟩, .slice none 0 0, .slice none 0 0] #[.int .i64 T.k.1, .int .i64 T.k.2, .string T.tg, .string T.tx, .slice ya T.at_.length cy, .slice yk T.ks.length dy] rfl rfl HR.out sizeVN rfl (by simp [Value.oneCell']) ?_))
          (try rw [Exit.noGoto_ret])
          have HE9 : Hid ((w7.setRow (w.heap.size + 1) #[.int .i64 T.k.1, .int .i64 T.k.2, .string T.tg, .string T.tx, .slice ya T.at_.length cy, .slice yk T.ks.length dy]).heap[w.heap.size + 1]? = some (.cells #[.int .i64 T.k.1, .int .i64 T.k.2, .string T.tg, .string T.tx, .slice ya T.at_.length cy, .slice yk T.ks.length dy] 27)) := setRow_same HR.out
          refine bodyPost_ret (results_cell_row3 rfl _ _ (w.heap.size + 1) _ _ _ _ rfl HE9.out Try.underlying27 rfl sizeVN rfl rfl) rfl ?_
          refine ApP.tree HRz.out (VIs.of (HFy.out.turn (by simp) fun k q _ => ⟨by simp; exact (HFF.out k q).1, setRow_other _ _ _ _ ?_⟩)) (HB7.out.1.grown (grown_setRow _ _ _) HB7.out.1.size (fun k e => by cases e; omega))
          have h8 := HP.out.rlt
          have h7 := HP.out.m.le
          rcases (HFF.out k q).2 with ⟨b, z1, z2⟩ | z
          · have := (OwnE.lt (HP.out.m.at_ b z1) k z2).1
            omega
          · omega
        | cons y0 H0 =>
          have hC0 : ∃ z r, g.C bh = z :: r := (by have h1 := RtL.len HP.out.p.rh; rw [hH] at h1; cases hC : g.C bh with | nil => rw [hC] at h1; simp at h1 | cons z r => exact ⟨z, r, rfl⟩)
          obtain ⟨z, r, hC0⟩ := hC0
          have u9 : wr.cell? ⟨bh, 9, none⟩ = some (.pointer (some ⟨z, 0, none⟩)) := (by have h9 := HP.out.m.mem.cfs HP.out.p.xh; rw [HP.out.p.lk.fst bh HP.out.p.xh, hC0] at h9; exact h9)
          rw [if_neg (by rw [hH]; simp)] at hfin
          have HRz := hide9 hfin
          have HR := hide9 HP.out.rb
          have HE9 : Hid ((wr.setRow (w.heap.size + 1) #[.int .i64 0, .int .i64 0, .string ⟨#[]⟩, .string ⟨#[]⟩, .slice none 0 0, .slice none 0 0]).heap[w.heap.size + 1]? = some (.cells #[.int .i64 0, .int .i64 0, .string ⟨#[]⟩, .string ⟨#[]⟩, .slice none 0 0, .slice none 0 0] 27)) := setRow_same HR.out
          have HB9 : Hid (Below w.heap.size w (wr.setRow (w.heap.size + 1) #[.int .i64 0, .int .i64 0, .string ⟨#[]⟩, .string ⟨#[]⟩, .slice none 0 0, .slice none 0 0])) := HP.out.bel.grown (grown_setRow _ _ _) HP.out.bel.size (fun k e => by cases e; omega)
          clear hC0 hfin hH
          go_wp2_with (refine wpList_store_row rfl 27 (.tmp 4) (.tmp 54) rfl (w.heap.size + 1) 27 #[.int .i64 0, .int .i64 0, .string ⟨#[]⟩, .string ⟨#[]⟩, .slice none 0 0, .slice none 0 0] #[.int .i64 0, .int .i64 0, .string ⟨#[]⟩, .string ⟨#[]⟩, .slice none 0 0, .slice none 0 0] rfl rfl HR.out sizeVN rfl (by simp [Value.oneCell']) ?_)
          (try rw [Exit.noGoto_ret])
          refine bodyPost_ret (results_cell_row3 rfl _ _ (w.heap.size + 1) _ _ _ _ rfl HE9.out Try.underlying27 rfl sizeVN rfl rfl) rfl ?_
          exact ApP.zero HRz.out HB9.out
  · have HRz : Hid (appR t L = (tZe, 0, chkT t)) := hide9 (if_pos hc)
    obtain ⟨c, ec⟩ : ∃ c, c = chkT t := ⟨_, rfl⟩
    rw [← ec] at HRz hc ⊢
    have hq : (c == 0) = false := by simpa using hc
    have hq2 : (!(c == 0)) = true := by rw [hq]; rfl
    have HE9 : Hid ((w2.setRow (w.heap.size + 1) #[.int .i64 0, .int .i64 0, .string ⟨#[]⟩, .string ⟨#[]⟩, .slice none 0 0, .slice none 0 0]).heap[w.heap.size + 1]? = some (.cells #[.int .i64 0, .int .i64 0, .string ⟨#[]⟩, .string ⟨#[]⟩, .slice none 0 0, .slice none 0 0] 27)) := setRow_same HR.out
    have HB9 : Hid (Below w.heap.size w (w2.setRow (w.heap.size + 1) #[.int .i64 0, .int .i64 0, .string ⟨#[]⟩, .string ⟨#[]⟩, .slice none 0 0, .slice none 0 0])) := HB.out.grown (grown_setRow _ _ _) HB.out.size (fun k e => by cases e; omega)
    clear ec hc
    go_wp2_with (refine wpList_store_row rfl 27 (.tmp 4) (.tmp 17) rfl (w.heap.size + 1) 27 #[.int .i64 0, .int .i64 0, .string ⟨#[]⟩, .string ⟨#[]⟩, .slice none 0 0, .slice none 0 0] #[.int .i64 0, .int .i64 0, .string ⟨#[]⟩, .string ⟨#[]⟩, .slice none 0 0, .slice none 0 0] rfl rfl HR.out sizeVN rfl (by simp [Value.oneCell']) ?_)
    (try rw [Exit.noGoto_ret])
    refine bodyPost_ret (results_cell_row3 rfl _ _ (w.heap.size + 1) _ _ _ _ rfl HE9.out Try.underlying27 rfl sizeVN rfl rfl) rfl ?_
    exact ApP.zero HRz.out HB9.out

end Go.Proofs.Ytccpljllgpabnab
