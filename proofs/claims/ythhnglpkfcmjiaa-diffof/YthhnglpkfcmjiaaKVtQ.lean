/- The document's Flat. -/
import Derived.Test.YthhnglpkfcmjiaaKVtK
import Derived.Deep.AppendLies
import Derived.Deep.Cut
namespace Go.Proofs.Ythhnglpkfcmjiaa
open Go.RowKit
set_option linter.unusedVariables false
set_option linter.unusedSimpArgs false
mutual
/-- A tree's nodes. -/
def flT : VT → List VT
  | .node k tg tx a ks => .node k tg tx a ks :: flTs ks
def flTs : List VT → List VT
  | [] => []
  | t :: r => flT t ++ flTs r
end
theorem flT_eq (t : VT) : flT t = t :: flTs t.ks := by cases t; simp only [flT, VT.ks]
theorem flTs_append : ∀ (l m : List VT), flTs (l ++ m) = flTs l ++ flTs m
  | [], m => by simp [flTs]
  | x :: r, m => by rw [List.cons_append, flTs, flTs, flTs_append r m, List.append_assoc]
theorem flTs_take {l : List VT} {i : Nat} (h : i < l.length) : flTs (l.take (i + 1)) = flTs (l.take i) ++ flT l[i] := by
  rw [List.take_succ_eq_append_getElem h, flTs_append]
  simp [flTs]
theorem flT_len_n : ∀ (n : Nat), (∀ t, VT.sz t ≤ n → (flT t).length = t.sz) ∧ (∀ l, szs l ≤ n → (flTs l).length = szs l)
  | 0 => ⟨fun t h => by have := t.sz_pos; omega, fun l h => by
      cases l with
      | nil => simp [flTs, szs]
      | cons x r => have := x.sz_pos; rw [szs] at h; omega⟩
  | n + 1 => by
    have ih := flT_len_n n
    have h1 : ∀ t, VT.sz t ≤ n + 1 → (flT t).length = t.sz := fun t h => by
      rw [flT_eq, List.length_cons, ih.2 _ (by have := t.sz_eq; omega), t.sz_eq]; omega
    refine ⟨h1, fun l => ?_⟩
    induction l with
    | nil => intro _; simp [flTs, szs]
    | cons x r ihr =>
      intro h
      rw [szs] at h
      rw [flTs, List.length_append, h1 x (by omega), ihr (by omega), szs]
theorem flT_len (t : VT) : (flT t).length = t.sz := (flT_len_n t.sz).1 t (Nat.le_refl _)
theorem flTs_len (l : List VT) : (flTs l).length = szs l := (flT_len_n (szs l)).2 l (Nat.le_refl _)
theorem szs_take_le (l : List VT) (i : Nat) : szs (l.take i) ≤ szs l := by
  have h := szs_append (l.take i) (l.drop i)
  rw [List.take_append_drop] at h
  omega
/-- What stands while a tree is laid flat. -/
structure FlS (N : Nat) (w : World) (t : VT) (aa : Option Addr) (ca : Nat) (ak : Option Addr) (ck : Nat) (sv : Value) (E : List (VT × Value × Value)) (v : Value) (E1 : List (VT × Value × Value)) (i : Nat) (W : World) : Prop where
  tb : W.heap[w.heap.size]? = some (.cells #[.int .i64 t.k.1, .int .i64 t.k.2, .string t.tg, .string t.tx, .slice aa t.at_.length ca, .slice ak t.ks.length ck] 27)
  row : OwnVn N W v (E ++ E1)
  es : E1.map Prod.fst = t :: flTs (t.ks.take i)
  ev : ∀ x ∈ E1, FdIs (fun k => k < N) W x.2.1 x.2.2 x.1.at_ x.1.ks
  tch : Touch (fun k => sv.ownBlock = some k) w W
  vo : v.ownBlock = sv.ownBlock ∨ ∃ k, v.ownBlock = some k ∧ w.heap.size < k
  nn : ∃ g c, v = .slice (some ⟨g, 0, none⟩) (E ++ E1).length c
def Stp (p : Prop) : Prop := p
theorem Stp.to {p : Prop} (h : Stp p) : p := h
theorem Stp.of {p : Prop} (h : p) : Stp p := h
/-- What Flat leaves. -/
def FlP (N : Nat) (t : VT) (sv : Value) (E : List (VT × Value × Value)) (w : World) (e : Ending) (w' : World) : Prop := ∃ v' E', e = .returned v' ∧ OwnVn N w' v' (E ++ E') ∧ E'.map Prod.fst = flT t ∧ (∀ x ∈ E', FdIs (fun k => k < N) w' x.2.1 x.2.2 x.1.at_ x.1.ks) ∧ Touch (fun k => sv.ownBlock = some k) w w' ∧ (v'.ownBlock = sv.ownBlock ∨ ∃ k, v'.ownBlock = some k ∧ w.heap.size ≤ k) ∧ ∃ g c, v' = .slice (some ⟨g, 0, none⟩) (E ++ E').length c
section
variable {N : Nat} {w W W' : World} {t : VT} {aa : Option Addr} {ca : Nat} {ak : Option Addr} {ck : Nat} {sv v : Value} {E E1 : List (VT × Value × Value)} {i : Nat}
theorem FlS.next (h : FlS N w t aa ca ak ck sv E v E1 i W) (hs : ∀ k, sv.ownBlock = some k → N ≤ k ∧ k < w.heap.size) (hN : N ≤ w.heap.size) (hi : i < t.ks.length) {x : VT} (hx : x = t.ks[i]) {e : Ending} (hp : FlP N x v (E ++ E1) W e W') : ∃ v' E2, e = .returned v' ∧ FlS N w t aa ca ak ck sv E v' E2 (i + 1) W' := by
  obtain ⟨v', E', he, h1, h2, h3, h4, h5, h6⟩ := hp
  have htl := row_lt h.tb
  have hws := h.tch.size
  have hvN : ∀ k, v.ownBlock = some k → N ≤ k ∧ k ≠ w.heap.size := fun k q => by
    rcases h.vo with z | ⟨k', z, zl⟩
    · have := hs k (by rw [← z, q]); omega
    · rw [q] at z; cases z; omega
  refine ⟨v', E1 ++ E', he, (h4.block _ htl (fun q => (hvN _ q).2 rfl)).trans h.tb, by rw [← List.append_assoc]; exact h1, ?_, ?_, Touch.trans h.tch h4 (fun j q => ?_), ?_, by rw [← List.append_assoc]; exact h6⟩
  · rw [List.map_append, h.es, h2, flTs_take hi, hx]
    simp
  · intro y hy
    rcases List.mem_append.1 hy with hy | hy
    · exact (h.ev y hy).turn h4.size fun k q hlt => ⟨q, h4.block k hlt (fun z => by have := (hvN k z).1; omega)⟩
    · exact h3 y hy
  · rcases h.vo with z | ⟨k', z, zl⟩
    · exact .inl (by rw [← z, q])
    · rw [q] at z; cases z; exact .inr (by omega)
  · rcases h5 with z | ⟨k, z, zl⟩
    · rw [z]; exact h.vo
    · exact .inr ⟨k, z, by omega⟩
end
set_option maxRecDepth 100000 in
set_option maxHeartbeats 8000000 in
theorem flat_n (N m : Nat) : ∀ (t : VT) (v sv : Value) (E : List (VT × Value × Value)) (w : World), t.sz ≤ m → VIs (fun k => k < N) w v t → OwnVn N w sv E → (∃ g c, sv = .slice (some ⟨g, 0, none⟩) E.length c) → N ≤ w.heap.size → E.length + t.sz ≤ 1048576 → Calls Try.prog 48 #[v, sv] w fun e w' => FlP N t sv E w e w' := by
  induction m with
  | zero => intro t _ _ _ _ h; have := t.sz_pos; omega
  | succ m ih =>
    intro t v sv E w hm hv hs hsf hN hal
    obtain ⟨aa, ca, ak, ck, e1, fd⟩ := hv.form
    subst e1
    obtain ⟨i0, hin, hz0, hz1, hz2⟩ := info_parts infoVn
    obtain ⟨g0, c0, rfl⟩ := hsf
    have hsN : ∀ k, (Value.slice (some ⟨g0, 0, none⟩) E.length c0).ownBlock = some k → N ≤ k ∧ k < w.heap.size := fun k q => OwnE.lt hs k q
    have HsN := hide9 hsN
    obtain ⟨W1, eW1⟩ : ∃ X, X = (w.alloc (.cells #[.int .i64 t.k.1, .int .i64 t.k.2, .string t.tg, .string t.tx, .slice aa t.at_.length ca, .slice ak t.ks.length ck] 27)) := ⟨_, rfl⟩
    obtain ⟨W2, eW2⟩ : ∃ X, X = W1.alloc (.cells #[.int .i64 t.k.1, .int .i64 t.k.2, .string t.tg, .string t.tx, .slice aa t.at_.length ca, .slice ak t.ks.length ck] 27) := ⟨_, rfl⟩
    have hb1 : Below w.heap.size w W1 := (by rw [eW1]; exact (Below.refl _ _).alloc (Nat.le_refl _) _)
    have hs1 : W1.heap.size = w.heap.size + 1 := (by rw [eW1]; simp)
    have hb2 : Below W1.heap.size W1 W2 := (by rw [eW2]; exact (Below.refl _ _).alloc (Nat.le_refl _) _)
    have hs2 : W2.heap.size = w.heap.size + 2 := (by rw [eW2]; simp [hs1])
    have hT1 : W1.heap[w.heap.size]? = some (.cells #[.int .i64 t.k.1, .int .i64 t.k.2, .string t.tg, .string t.tx, .slice aa t.at_.length ca, .slice ak t.ks.length ck] 27) := (by rw [eW1]; exact heap_alloc_new _ _)
    have hT2 : W2.heap[w.heap.size + 1]? = some (.cells #[.int .i64 t.k.1, .int .i64 t.k.2, .string t.tg, .string t.tx, .slice aa t.at_.length ca, .slice ak t.ks.length ck] 27) := (by rw [eW2, ← hs1]; exact heap_alloc_new _ _)
    have hbb := hb1.trans (hb2.mono hb1.size)
    have HO2 := hide9 (OwnE.below hs hbb)
    have HTt := hide9 ((hb2.block _ (row_lt hT1)).trans hT1)
    have HT2 := hide9 hT2
    have HB2 := hide9 hbb
    have Hfd := hide9 fd
    have Hs2 := hide9 hs2
    have HE := hide9 (And.intro eW1 eW2)
    have hlk := fd.ks.len
    have Hal := hide9 hal
    have HN := hide9 hN
    clear hv hs hsN hb1 hs1 hb2 hs2 hT1 hT2 hbb fd eW1 eW2 hN hal
    go_enter Try.func48, Try.ntmps48
    go_wp2_with (at_builtin; refine Stp.to ?_)
    refine Stp.of ?_
    rw [← HE.out.1, ← HE.out.2]
    refine wpList_append_lies W2 rfl _ _ 25 rfl N 27 i0 (.agg #[.int .i64 0, .int .i64 0, .string ⟨#[]⟩, .string ⟨#[]⟩, .slice none 0 0, .slice none 0 0]) 6 96 Try.underlying25 hin hz0 hz1 hz2 rfl (by decide) (.slice (some ⟨g0, 0, none⟩) E.length c0) E.length (flatE vnC E) rfl HO2.out ⟨w.heap.size + 1, 0, none⟩ 1 1 (vnC (t, .slice aa t.at_.length ca, .slice ak t.ks.length ck)) rfl rfl (fun j u hj => by rw [Addr.add_lit, Nat.zero_add, cell_of_row _ _ _ _ _ _ HT2.out]; simpa [vnC, ndC] using hj) (fun y hy => by simp [vnC, ndC] at hy; rcases hy with rfl | rfl | rfl | rfl | rfl | rfl <;> rfl) (by decide) (by have := Hal.out; unfold maxLen; omega) (by have := Hal.out; omega) (by have := HN.out; have := Hs2.out; omega) (w.heap.size + 2) Hs2.out ?_
    intro g3 c3 W3 hown3 hgr3 hat3 hlt3
    have HS : Hid (FlS N w t aa ca ak ck (.slice (some ⟨g0, 0, none⟩) E.length c0) E (.slice (some ⟨g3, 0, none⟩) (E.length + 1) c3) [(t, .slice aa t.at_.length ca, .slice ak t.ks.length ck)] 0 W3) := ⟨(hgr3.block _ (row_lt HTt.out) (fun e => by have := (HsN.out _ e.symm).2; omega)).trans HTt.out, OwnE.snoc rfl hown3, by simp [flTs], fun y hy => (by rw [List.mem_singleton] at hy; subst hy; exact Hfd.out.turn (Nat.le_trans HB2.out.size hgr3.size) (fun k q hlt => ⟨q, (hgr3.block k (Nat.lt_of_lt_of_le hlt HB2.out.size) (fun e => by have := (HsN.out _ e.symm).1; omega)).trans (HB2.out.block k hlt)⟩)), Touch.trans (Touch.of_below HB2.out) (Touch.of_grown (F := fun k => (Value.slice (some ⟨g0, 0, none⟩) E.length c0).ownBlock = some k) hgr3 (fun k e _ => e)) (fun j q => .inl q), hat3.elim (fun e => .inl e.symm) (fun e => .inr ⟨g3, rfl, by omega⟩), ⟨g3, c3, by simp⟩⟩
    clear hown3 hgr3 hat3 hlt3 HO2 HTt HT2 HB2 HE
    go_wp2
    go_loopw [1, 5] (fun v iv wr => ∃ (i : Nat) (E1 : List (VT × Value × Value)), iv = .int .i64 (i : Int) ∧ i ≤ t.ks.length ∧ Hid (FlS N w t aa ca ak ck (.slice (some ⟨g0, 0, none⟩) E.length c0) E v E1 i wr)) (fun _ iv _ => t.ks.length - (intOf iv).toNat)
    case atStart => exact ⟨0, _, rfl, Nat.zero_le _, HS⟩
    case round =>
      clear HS
      obtain ⟨i, E1, rfl, hi, HS⟩ := hrel
      obtain ⟨g1, c1, e1⟩ := HS.out.nn
      obtain ⟨n1, en1⟩ : ∃ n, n = (E ++ E1).length := ⟨_, rfl⟩
      rw [← en1] at e1
      subst e1
      clear en1
      have z5 := (row6 HS.out.tb).2.2.2.2.2
      by_cases hlt : i < t.ks.length
      · obtain ⟨b1, o1, rfl, hb1, hl1, hv1⟩ := (Hfd.out.ks.turn (G' := fun k => k < N) HS.out.tch.size (fun k q hl => ⟨q, HS.out.tch.block k hl (fun e => by have := (HsN.out k e).1; omega)⟩)).kid hlt
        have hszx : t.ks[i].sz ≤ m := (by have := VT.kid (t := t) hlt; omega)
        have hsz2 := szs_take hlt
        have hszl := szs_take_le t.ks (i + 1)
        obtain ⟨x, ex⟩ : ∃ x, x = t.ks[i] := ⟨_, rfl⟩
        rw [← ex] at hv1 hszx hsz2
        have Hx : Hid (x = t.ks[i]) := ex
        obtain ⟨xa, cx, xk, dx, p0, p1, p2, p3, p4, p5, fx⟩ := hv1.cells
        have HFx := hide9 fx
        have Hsz : Hid (x.sz ≤ m) := hszx
        have k1 : (i : Int) < (t.ks.length : Int) := by omega
        have k0 : (0 : Int) ≤ (i : Int) := by omega
        have HLn : Hid ((E ++ E1).length + x.sz ≤ 1048576) := (by have h9 := congrArg List.length HS.out.es; rw [List.length_map, List.length_cons, flTs_len] at h9; have h8 := t.sz_eq; have h7 := Hal.out; show _ ≤ _; rw [List.length_append]; omega)
        clear hv1 hszx hsz2 hszl ex fx hb1 hl1
        go_wp2_with fail
        clear p0 p1 p2 p3 p4 p5 z5
        refine (ih x _ _ (E ++ E1) _ Hsz.out (VIs.of HFx.out) HS.out.row HS.out.nn (Nat.le_trans HN.out HS.out.tch.size) HLn.out).mono ?_
        rintro e W4 hp
        obtain ⟨v4, E4, rfl, hS4⟩ := HS.out.next HsN.out HN.out hlt Hx.out hp
        have HS4 := hide9 hS4
        obtain ⟨a4, c4, e4⟩ := hS4.nn
        obtain ⟨n4, en4⟩ : ∃ n, n = (E ++ E4).length := ⟨_, rfl⟩
        rw [← en4] at e4
        subst e4
        clear en4
        clear hp hS4 HFx
        have nw1 : IntKind.i64.wrap ((i : Int) + 1) = (i : Int) + 1 := by rw [IntKind.wrap_i64]; omega
        go_wp2
        go_roundw
        case rel => exact ⟨i + 1, E4, by go_num, by omega, HS4⟩
        case measure => simp [intOf]; omega
      · have ei : i = t.ks.length := by omega
        have HP : Hid (FlP N t (.slice (some ⟨g0, 0, none⟩) E.length c0) E w (.returned (.slice (some ⟨g1, 0, none⟩) n1 c1)) wr) := ⟨_, E1, rfl, HS.out.row, (by have h9 := HS.out.es; rw [ei, List.take_length, ← flT_eq] at h9; exact h9), HS.out.ev, HS.out.tch, HS.out.vo.imp id (fun ⟨k, q, z⟩ => ⟨k, q, by omega⟩), HS.out.nn⟩
        have k1 : ¬ (i : Int) < (t.ks.length : Int) := by omega
        have k3 : decide ((i : Int) < (t.ks.length : Int)) = false := decide_eq_false k1
        clear HS ei
        go_wp2
        go_ret
        exact HP.out
set_option maxRecDepth 100000 in
set_option maxHeartbeats 4000000 in
theorem flatF_any (G : Nat → Prop) (t : VT) (v : Value) (w : World) (hv : VIs G w v t) (hsz : t.sz ≤ 1048576) : Calls Try.prog 27 #[v] w fun e w' => ∃ v' E, e = .returned v' ∧ OwnVn w.heap.size w' v' E ∧ E.map Prod.fst = flT t ∧ (∀ x ∈ E, FdIs (fun k => k < w.heap.size) w' x.2.1 x.2.2 x.1.at_ x.1.ks) ∧ Below w.heap.size w w' := by
  obtain ⟨aa, ca, ak, ck, e1, fd⟩ := hv.form
  subst e1
  obtain ⟨W1, eW1⟩ : ∃ X, X = (w.alloc (.cells #[.int .i64 t.k.1, .int .i64 t.k.2, .string t.tg, .string t.tx, .slice aa t.at_.length ca, .slice ak t.ks.length ck] 27)) := ⟨_, rfl⟩
  obtain ⟨W2, eW2⟩ : ∃ X, X = W1.alloc (.cells #[] 27) := ⟨_, rfl⟩
  have hb1 : Below w.heap.size w W1 := (by rw [eW1]; exact (Below.refl _ _).alloc (Nat.le_refl _) _)
  have hs1 : W1.heap.size = w.heap.size + 1 := (by rw [eW1]; simp)
  have hb2 : Below W1.heap.size W1 W2 := (by rw [eW2]; exact (Below.refl _ _).alloc (Nat.le_refl _) _)
  have hbb := hb1.trans (hb2.mono hb1.size)
  have HO : Hid (OwnVn w.heap.size W2 (.slice (some ⟨w.heap.size + 1, 0, none⟩) 0 0) []) := (by rw [eW2, ← hs1]; exact World.ownsRow_made W1 #[] 0 (by omega) (by unfold maxLen; omega) (by simp))
  have HV : Hid (FdIs (fun k => k < w.heap.size) W2 (.slice aa t.at_.length ca) (.slice ak t.ks.length ck) t.at_ t.ks) := fd.turn hbb.size fun k _ q => ⟨q, hbb.block k q⟩
  have HB := hide9 hbb
  have HE := hide9 (And.intro eW1 eW2)
  clear hv fd hb1 hb2 hbb hs1 eW1 eW2
  go_enter Try.func27, Try.ntmps27
  go_wp2_with fail
  rw [← HE.out.1, ← HE.out.2]
  clear HE
  refine (flat_n w.heap.size t.sz t _ _ [] _ (Nat.le_refl _) (VIs.of HV.out) HO.out ⟨_, _, rfl⟩ HB.out.size (by simpa using hsz)).mono ?_
  rintro e W3 ⟨v', E', rfl, h1, h2, h3, h4, _, g3, c3, e3⟩
  have HP := hide9 (And.intro h1 (And.intro h2 (And.intro h3 (HB.out.trans (h4.below (fun k q => by have h9 : w.heap.size + 1 = k := (by simpa [Value.ownBlock] using q); omega) HB.out.size)))))
  obtain ⟨n3, en3⟩ : ∃ n, n = ([] ++ E').length := ⟨_, rfl⟩
  rw [← en3] at e3
  subst e3
  clear en3
  clear h1 h2 h3 h4
  go_wp2
  go_ret
  exact ⟨_, _, rfl, HP.out.1, HP.out.2.1, HP.out.2.2.1, HP.out.2.2.2⟩
end Go.Proofs.Ythhnglpkfcmjiaa
