/- The document's Deeps, and its Depth. -/
import Derived.Test.YtngglnlphlembaaVtKf
namespace Go.Proofs.Ytngglnlphlembaa
open Go.RowKit Go.Shelf
set_option linter.unusedVariables false
set_option linter.unusedSimpArgs false

/-- How many are above each node. -/
def dpL (t : VT) (d : Nat) : List Nat := (flatD t d).map Prod.fst
def dpsL (l : List VT) (d : Nat) : List Nat := (flatDs l d).map Prod.fst
theorem dpL_eq (t : VT) (d : Nat) : dpL t d = d :: dpsL t.ks (d + 1) := by unfold dpL dpsL; rw [flatD_eq]; rfl
theorem flatDs_append : ∀ (l m : List VT) (d : Nat), flatDs (l ++ m) d = flatDs l d ++ flatDs m d
  | [], m, d => by simp [flatDs]
  | x :: r, m, d => by rw [List.cons_append, flatDs, flatDs, flatDs_append r m d, List.append_assoc]
theorem dpsL_take {l : List VT} {i d : Nat} (h : i < l.length) : dpsL (l.take (i + 1)) d = dpsL (l.take i) d ++ dpL l[i] d := by
  unfold dpsL dpL
  rw [List.take_succ_eq_append_getElem h, flatDs_append, List.map_append]
  simp [flatDs]
theorem dpL_len (t : VT) (d : Nat) : (dpL t d).length = t.sz := by
  have h1 := congrArg List.length (flatD_snd t d)
  rw [List.length_map, flT_len] at h1
  unfold dpL
  rw [List.length_map, h1]
theorem dpsL_len (l : List VT) (d : Nat) : (dpsL l d).length = szs l := by
  have h1 := congrArg List.length ((flatD_n (szs l)).2 l d (Nat.le_refl _)).1
  rw [List.length_map, flTs_len] at h1
  unfold dpsL
  rw [List.length_map, h1]
def ntC (x : Nat) : List Value := [.int .i64 (x : Int)]
theorem ntC_len (x : Nat) : (ntC x).length = 1 := rfl
abbrev OwnNt (B : Nat) (w : World) (v : Value) (D : List Nat) : Prop := OwnE ntC 1 3 B w v D
theorem infoNt : (Try.prog.info? 3).map (fun i => (i.zero, i.size, i.bytes)) = some (some (.int .i64 0), 1, 8) := by kernel_rfl
/-- What stands while the depths are told. -/
structure DpS (N : Nat) (w : World) (t : VT) (d : Nat) (aa : Option Addr) (ca : Nat) (ak : Option Addr) (ck : Nat) (sv : Value) (D : List Nat) (v : Value) (D1 : List Nat) (i : Nat) (W : World) : Prop where
  tb : W.heap[w.heap.size]? = some (.cells #[.int .i64 t.k.1, .int .i64 t.k.2, .string t.tg, .string t.tx, .slice aa t.at_.length ca, .slice ak t.ks.length ck] 27)
  row : OwnNt N W v (D ++ D1)
  es : D1 = d :: dpsL (t.ks.take i) (d + 1)
  tch : Touch (fun k => sv.ownBlock = some k) w W
  vo : v.ownBlock = sv.ownBlock ∨ ∃ k, v.ownBlock = some k ∧ w.heap.size < k
  nn : ∃ g c, v = .slice (some ⟨g, 0, none⟩) (D ++ D1).length c
/-- What Deeps leaves. -/
def DpP (N : Nat) (t : VT) (d : Nat) (sv : Value) (D : List Nat) (w : World) (e : Ending) (w' : World) : Prop := ∃ v', e = .returned v' ∧ OwnNt N w' v' (D ++ dpL t d) ∧ Touch (fun k => sv.ownBlock = some k) w w' ∧ (v'.ownBlock = sv.ownBlock ∨ ∃ k, v'.ownBlock = some k ∧ w.heap.size ≤ k) ∧ ∃ g c, v' = .slice (some ⟨g, 0, none⟩) (D ++ dpL t d).length c
section
variable {N : Nat} {w W W' : World} {t : VT} {d : Nat} {aa : Option Addr} {ca : Nat} {ak : Option Addr} {ck : Nat} {sv v : Value} {D D1 : List Nat} {i : Nat}
theorem DpS.next (h : DpS N w t d aa ca ak ck sv D v D1 i W) (hs : ∀ k, sv.ownBlock = some k → N ≤ k ∧ k < w.heap.size) (hN : N ≤ w.heap.size) (hi : i < t.ks.length) {x : VT} (hx : x = t.ks[i]) {e : Ending} (hp : DpP N x (d + 1) v (D ++ D1) W e W') : ∃ v' D2, e = .returned v' ∧ DpS N w t d aa ca ak ck sv D v' D2 (i + 1) W' := by
  obtain ⟨v', he, h1, h4, h5, h6⟩ := hp
  have htl := row_lt h.tb
  have hws := h.tch.size
  have hvN : ∀ k, v.ownBlock = some k → N ≤ k ∧ k ≠ w.heap.size := fun k q => by
    rcases h.vo with z | ⟨k', z, zl⟩
    · have := hs k (by rw [← z, q]); omega
    · rw [q] at z; cases z; omega
  refine ⟨v', D1 ++ dpL x (d + 1), he, (h4.block _ htl (fun q => (hvN _ q).2 rfl)).trans h.tb, by rw [← List.append_assoc]; exact h1, ?_, Touch.trans h.tch h4 (fun j q => ?_), ?_, by rw [← List.append_assoc]; exact h6⟩
  · rw [h.es, dpsL_take hi, hx]
    simp
  · rcases h.vo with z | ⟨k', z, zl⟩
    · exact .inl (by rw [← z, q])
    · rw [q] at z; cases z; exact .inr (by omega)
  · rcases h5 with z | ⟨k, z, zl⟩
    · rw [z]; exact h.vo
    · exact .inr ⟨k, z, by omega⟩
end

set_option maxRecDepth 100000 in
set_option maxHeartbeats 8000000 in
theorem deeps_n (N m : Nat) : ∀ (t : VT) (d : Nat) (v sv : Value) (D : List Nat) (w : World), t.sz ≤ m → VIs (fun k => k < N) w v t → OwnNt N w sv D → (∃ g c, sv = .slice (some ⟨g, 0, none⟩) D.length c) → N ≤ w.heap.size → D.length + t.sz ≤ 1048576 → d + t.sz ≤ 2097152 → Calls Try.prog 20 #[v, .int .i64 (d : Int), sv] w fun e w' => DpP N t d sv D w e w' := by
  induction m with
  | zero => intro t _ _ _ _ _ h; have := t.sz_pos; omega
  | succ m ih =>
    intro t d v sv D w hm hv hs hsf hN hal hdl
    obtain ⟨aa, ca, ak, ck, e1, fd⟩ := hv.form
    subst e1
    obtain ⟨i0, hin, hz0, hz1, hz2⟩ := info_parts infoNt
    obtain ⟨g0, c0, rfl⟩ := hsf
    have hsN : ∀ k, (Value.slice (some ⟨g0, 0, none⟩) D.length c0).ownBlock = some k → N ≤ k ∧ k < w.heap.size := fun k q => OwnE.lt hs k q
    have HsN := hide9 hsN
    obtain ⟨W1, eW1⟩ : ∃ X, X = (w.alloc (.cells #[.int .i64 t.k.1, .int .i64 t.k.2, .string t.tg, .string t.tx, .slice aa t.at_.length ca, .slice ak t.ks.length ck] 27)) := ⟨_, rfl⟩
    obtain ⟨W2, eW2⟩ : ∃ X, X = W1.alloc (.cells #[.int .i64 (d : Int)] 3) := ⟨_, rfl⟩
    have hb1 : Below w.heap.size w W1 := (by rw [eW1]; exact (Below.refl _ _).alloc (Nat.le_refl _) _)
    have hs1 : W1.heap.size = w.heap.size + 1 := (by rw [eW1]; simp)
    have hb2 : Below W1.heap.size W1 W2 := (by rw [eW2]; exact (Below.refl _ _).alloc (Nat.le_refl _) _)
    have hs2 : W2.heap.size = w.heap.size + 2 := (by rw [eW2]; simp [hs1])
    have hT1 : W1.heap[w.heap.size]? = some (.cells #[.int .i64 t.k.1, .int .i64 t.k.2, .string t.tg, .string t.tx, .slice aa t.at_.length ca, .slice ak t.ks.length ck] 27) := (by rw [eW1]; exact heap_alloc_new _ _)
    have hT2 : W2.heap[w.heap.size + 1]? = some (.cells #[.int .i64 (d : Int)] 3) := (by rw [eW2, ← hs1]; exact heap_alloc_new _ _)
    have hbb := hb1.trans (hb2.mono hb1.size)
    have HO2 := hide9 (OwnE.below hs hbb)
    have HTt := hide9 ((hb2.block _ (row_lt hT1)).trans hT1)
    have HT2 := hide9 hT2
    have HB2 := hide9 hbb
    have Hfd := hide9 fd
    have Hs2 := hide9 hs2
    have HE := hide9 (And.intro eW1 eW2)
    have hlk := fd.ks.len
    have Hal := hide9 hal
    have HN := hide9 hN
    clear hv hs hsN hb1 hs1 hb2 hs2 hT1 hT2 hbb fd eW1 eW2 hN hal
    go_enter Try.func20, Try.ntmps20
    go_wp2_with (at_builtin; refine Stp.to ?_)
    refine Stp.of ?_
    rw [← HE.out.1, ← HE.out.2]
    refine wpList_append_lies W2 rfl _ _ 36 rfl N 3 i0 (.int .i64 0) 1 8 Try.underlying36 hin hz0 hz1 hz2 rfl (by decide) (.slice (some ⟨g0, 0, none⟩) D.length c0) D.length (flatE ntC D) rfl HO2.out ⟨w.heap.size + 1, 0, none⟩ 1 1 (ntC d) rfl rfl (fun j u hj => by rw [Addr.add_lit, Nat.zero_add, cell_of_row _ _ _ _ _ _ HT2.out]; simpa [ntC] using hj) (fun y hy => by simp [ntC] at hy; subst hy; rfl) (by decide) (by have := Hal.out; unfold maxLen; omega) (by have := Hal.out; omega) (by have := HN.out; have := Hs2.out; omega) (w.heap.size + 2) Hs2.out ?_
    intro g3 c3 W3 hown3 hgr3 hat3 hlt3
    have HS : Hid (DpS N w t d aa ca ak ck (.slice (some ⟨g0, 0, none⟩) D.length c0) D (.slice (some ⟨g3, 0, none⟩) (D.length + 1) c3) [d] 0 W3) := ⟨(hgr3.block _ (row_lt HTt.out) (fun e => by have := (HsN.out _ e.symm).2; omega)).trans HTt.out, OwnE.snoc rfl hown3, by simp [dpsL, flatDs], Touch.trans (Touch.of_below HB2.out) (Touch.of_grown (F := fun k => (Value.slice (some ⟨g0, 0, none⟩) D.length c0).ownBlock = some k) hgr3 (fun k e _ => e)) (fun j q => .inl q), hat3.elim (fun e => .inl e.symm) (fun e => .inr ⟨g3, rfl, by omega⟩), ⟨g3, c3, by simp⟩⟩
    clear hown3 hgr3 hat3 hlt3 HO2 HTt HT2 HB2 HE
    go_wp2
    go_loopw [2, 7] (fun v iv wr => ∃ (i : Nat) (D1 : List Nat), iv = .int .i64 (i : Int) ∧ i ≤ t.ks.length ∧ Hid (DpS N w t d aa ca ak ck (.slice (some ⟨g0, 0, none⟩) D.length c0) D (v) D1 i wr)) (fun _ iv _ => t.ks.length - (intOf iv).toNat)
    case atStart => exact ⟨0, _, rfl, Nat.zero_le _, HS⟩
    case round =>
      clear HS
      obtain ⟨i, D1, rfl, hi, HS⟩ := hrel
      obtain ⟨g1, c1, e1⟩ := HS.out.nn
      obtain ⟨n1, en1⟩ : ∃ n, n = (D ++ D1).length := ⟨_, rfl⟩
      rw [← en1] at e1
      subst e1
      clear en1
      have z5 := (row6 HS.out.tb).2.2.2.2.2
      by_cases hlt : i < t.ks.length
      · obtain ⟨b1, o1, rfl, hb1, hl1, hv1⟩ := (Hfd.out.ks.turn (G' := fun k => k < N) HS.out.tch.size (fun k q hl => ⟨q, HS.out.tch.block k hl (fun e => by have := (HsN.out k e).1; omega)⟩)).kid hlt
        have hszx : t.ks[i].sz < t.sz := VT.kid (t := t) hlt
        have hsz2 := szs_take hlt
        have hszl := szs_take_le t.ks (i + 1)
        obtain ⟨x, ex⟩ : ∃ x, x = t.ks[i] := ⟨_, rfl⟩
        rw [← ex] at hv1 hszx hsz2
        have Hx : Hid (x = t.ks[i]) := ex
        obtain ⟨xa, cx, xk, dx, p0, p1, p2, p3, p4, p5, fx⟩ := hv1.cells
        have HFx := hide9 fx
        have Hsz : Hid (x.sz ≤ m ∧ d + 1 + x.sz ≤ 2097152) := ⟨by omega, by omega⟩
        have k1 : (i : Int) < (t.ks.length : Int) := by omega
        have k0 : (0 : Int) ≤ (i : Int) := by omega
        have nd1 : IntKind.i64.wrap ((d : Int) + 1) = ((d + 1 : Nat) : Int) := by rw [IntKind.wrap_i64]; omega
        have HLn : Hid ((D ++ D1).length + x.sz ≤ 1048576) := (by have h9 := congrArg List.length HS.out.es; rw [List.length_cons, dpsL_len] at h9; have h8 := t.sz_eq; have h7 := Hal.out; show _ ≤ _; rw [List.length_append]; omega)
        clear hv1 hszx hsz2 hszl ex fx hb1 hl1
        go_wp2_with fail
        clear p0 p1 p2 p3 p4 p5 z5
        refine (ih x (d + 1) _ _ (D ++ D1) _ Hsz.out.1 (VIs.of HFx.out) HS.out.row HS.out.nn (Nat.le_trans HN.out HS.out.tch.size) HLn.out Hsz.out.2).mono ?_
        rintro e W4 hp
        obtain ⟨v4, D4, rfl, hS4⟩ := HS.out.next HsN.out HN.out hlt Hx.out hp
        have HS4 := hide9 hS4
        obtain ⟨a4, c4, e4⟩ := hS4.nn
        obtain ⟨n4, en4⟩ : ∃ n, n = (D ++ D4).length := ⟨_, rfl⟩
        rw [← en4] at e4
        subst e4
        clear en4
        clear hp hS4 HFx
        have nw1 : IntKind.i64.wrap ((i : Int) + 1) = (i : Int) + 1 := by rw [IntKind.wrap_i64]; omega
        go_wp2
        go_roundw
        case rel => exact ⟨i + 1, D4, by go_num, by omega, HS4⟩
        case measure => simp [intOf]; omega
      · have ei : i = t.ks.length := by omega
        have h9 : D1 = dpL t d := (by have h9 := HS.out.es; rw [ei, List.take_length, ← dpL_eq] at h9; exact h9)
        have HP : Hid (DpP N t d (.slice (some ⟨g0, 0, none⟩) D.length c0) D w (.returned (.slice (some ⟨g1, 0, none⟩) n1 c1)) wr) := ⟨_, rfl, by rw [← h9]; exact HS.out.row, HS.out.tch, HS.out.vo.imp id (fun ⟨k, q, z⟩ => ⟨k, q, by omega⟩), by rw [← h9]; exact HS.out.nn⟩
        have k1 : ¬ (i : Int) < (t.ks.length : Int) := by omega
        have k3 : decide ((i : Int) < (t.ks.length : Int)) = false := decide_eq_false k1
        clear HS ei h9
        go_wp2
        go_ret
        exact HP.out

set_option maxRecDepth 100000 in
set_option maxHeartbeats 4000000 in
theorem deepsF_any (G : Nat → Prop) (t : VT) (v : Value) (w : World) (hv : VIs G w v t) (hsz : t.sz ≤ 1048576) : Calls Try.prog 10 #[v] w fun e w' => ∃ v', e = .returned v' ∧ OwnNt w.heap.size w' v' (dpL t 0) ∧ Below w.heap.size w w' := by
  obtain ⟨aa, ca, ak, ck, e1, fd⟩ := hv.form
  subst e1
  obtain ⟨W1, eW1⟩ : ∃ X, X = (w.alloc (.cells #[.int .i64 t.k.1, .int .i64 t.k.2, .string t.tg, .string t.tx, .slice aa t.at_.length ca, .slice ak t.ks.length ck] 27)) := ⟨_, rfl⟩
  obtain ⟨W2, eW2⟩ : ∃ X, X = W1.alloc (.cells #[] 3) := ⟨_, rfl⟩
  have hb1 : Below w.heap.size w W1 := (by rw [eW1]; exact (Below.refl _ _).alloc (Nat.le_refl _) _)
  have hs1 : W1.heap.size = w.heap.size + 1 := (by rw [eW1]; simp)
  have hb2 : Below W1.heap.size W1 W2 := (by rw [eW2]; exact (Below.refl _ _).alloc (Nat.le_refl _) _)
  have hbb := hb1.trans (hb2.mono hb1.size)
  have HO : Hid (OwnNt w.heap.size W2 (.slice (some ⟨w.heap.size + 1, 0, none⟩) 0 0) []) := (by rw [eW2, ← hs1]; exact World.ownsRow_made W1 #[] 0 (by omega) (by unfold maxLen; omega) (by simp))
  have HV : Hid (FdIs (fun k => k < w.heap.size) W2 (.slice aa t.at_.length ca) (.slice ak t.ks.length ck) t.at_ t.ks) := fd.turn hbb.size fun k _ q => ⟨q, hbb.block k q⟩
  have HB := hide9 hbb
  have HE := hide9 (And.intro eW1 eW2)
  clear hv fd hb1 hb2 hbb hs1 eW1 eW2
  go_enter Try.func10, Try.ntmps10
  go_wp2_with fail
  rw [← HE.out.1, ← HE.out.2]
  clear HE
  refine (deeps_n w.heap.size t.sz t 0 _ _ [] _ (Nat.le_refl _) (VIs.of HV.out) HO.out ⟨_, _, rfl⟩ HB.out.size (by simpa using hsz) (by omega)).mono ?_
  rintro e W3 ⟨v', rfl, h1, h4, _, g3, c3, e3⟩
  have HP := hide9 (And.intro h1 (HB.out.trans (h4.below (fun k q => by have h9 : w.heap.size + 1 = k := (by simpa [Value.ownBlock] using q); omega) HB.out.size)))
  obtain ⟨n3, en3⟩ : ∃ n, n = ([] ++ dpL t 0).length := ⟨_, rfl⟩
  rw [← en3] at e3
  subst e3
  clear en3 h1 h4
  go_wp2
  go_ret
  exact ⟨_, rfl, HP.out.1, HP.out.2⟩
theorem dpL_mx (t : VT) : (dpL t 0).foldl max 0 = dpT t - 1 := by
  have h1 := flatA_mx (default : World) t 0 0 0
  have h2 : (flatA (default : World) t 0 0 0).map Nd.d = dpL t 0 := by unfold dpL; rw [← flatA_p (default : World) t 0 0 0, List.map_map]; rfl
  rw [h2] at h1
  omega

end Go.Proofs.Ytngglnlphlembaa
