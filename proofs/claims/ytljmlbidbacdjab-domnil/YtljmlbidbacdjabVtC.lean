/- Count, Depth, isTooMany. -/
import Derived.Test.YtljmlbidbacdjabVtO
namespace Go.Proofs.Ytljmlbidbacdjab
open Go.RowKit Go.Shelf
set_option linter.unusedVariables false
set_option linter.unusedSimpArgs false

attribute [local go_sem] Oper.semAt_some

mutual
/-- How deep a tree is. -/
def dpT : VT → Nat
  | .node _ _ _ _ ks => 1 + dps ks
def dps : List VT → Nat
  | [] => 0
  | t :: r => max (dpT t) (dps r)
end
theorem dpT_eq (t : VT) : dpT t = 1 + dps t.ks := by cases t; simp only [dpT, VT.ks]
/-- The most of the first k. -/
def mxD (xs : List Nd) (k : Nat) : Nat := ((xs.take k).map Nd.d).foldl max 0
theorem mxD_next {xs : List Nd} {k : Nat} (h : k < xs.length) : mxD xs (k + 1) = max (mxD xs k) xs[k].d := by
  unfold mxD
  rw [List.take_succ_eq_append_getElem h, List.map_append, List.foldl_append]
  rfl
theorem foldl_max_le : ∀ (l : List Nat) (m c : Nat), m ≤ c → (∀ x ∈ l, x ≤ c) → l.foldl max m ≤ c
  | [], m, c, h, _ => h
  | x :: r, m, c, h, h2 => foldl_max_le r (max m x) c (by have := h2 x (by simp); omega) (fun y hy => h2 y (by simp [hy]))
theorem mxD_le {xs : List Nd} {k c : Nat} (h : ∀ x ∈ xs, x.d ≤ c) : mxD xs k ≤ c := foldl_max_le _ _ _ (Nat.zero_le _) fun y hy => by
  obtain ⟨x, hx, rfl⟩ := List.mem_map.1 hy
  exact h x (List.mem_of_mem_take hx)
theorem mxD_all (xs : List Nd) : mxD xs xs.length = (xs.map Nd.d).foldl max 0 := by unfold mxD; rw [List.take_length]
theorem flatA_mx_n (w : World) : ∀ (n : Nat), (∀ t d b o m, VT.sz t ≤ n → ((flatA w t d b o).map Nd.d).foldl max m = max m (d + dpT t - 1)) ∧ (∀ l d b o m, szs l ≤ n → ((flatsA w l d b o).map Nd.d).foldl max m = max m (if dps l = 0 then 0 else d + dps l - 1))
  | 0 => ⟨fun t _ _ _ _ h => by have := t.sz_pos; omega, fun l _ _ _ _ h => by
      cases l with
      | nil => simp [flatsA, dps]
      | cons x r => have := x.sz_pos; rw [szs] at h; omega⟩
  | n + 1 => by
    have ih := flatA_mx_n w n
    have h1 : ∀ t d b o m, VT.sz t ≤ n + 1 → ((flatA w t d b o).map Nd.d).foldl max m = max m (d + dpT t - 1) := fun t d b o m h => by
      rw [flatA_eq, List.map_cons, List.foldl_cons, ih.2 _ _ _ _ _ (by have := t.sz_eq; omega), dpT_eq]
      show max (max m d) _ = _
      split <;> omega
    refine ⟨h1, fun l => ?_⟩
    induction l with
    | nil => intro d b o m _; simp [flatsA, dps]
    | cons x r ihr =>
      intro d b o m h
      rw [szs] at h
      rw [flatsA, List.map_append, List.foldl_append, h1 x d b o m (by omega), ihr d b (o + 6) _ (by omega), dps]
      have := dpT_eq x
      split <;> split <;> omega
theorem flatA_mx (w : World) (t : VT) (d b o : Nat) : ((flatA w t d b o).map Nd.d).foldl max 0 = d + dpT t - 1 := by
  rw [(flatA_mx_n w t.sz).1 t d b o 0 (Nat.le_refl _)]; omega
theorem dp_le_n : ∀ (n : Nat), (∀ t, VT.sz t ≤ n → dpT t ≤ t.sz) ∧ (∀ l, szs l ≤ n → dps l ≤ szs l)
  | 0 => ⟨fun t h => by have := t.sz_pos; omega, fun l h => by
      cases l with
      | nil => simp [dps]
      | cons x r => have := x.sz_pos; rw [szs] at h; omega⟩
  | n + 1 => by
    have ih := dp_le_n n
    have h1 : ∀ t, VT.sz t ≤ n + 1 → dpT t ≤ t.sz := fun t h => by
      have h2 := t.sz_eq
      rw [dpT_eq, h2]
      have := ih.2 t.ks (by omega)
      omega
    refine ⟨h1, fun l => ?_⟩
    induction l with
    | nil => intro _; simp [dps]
    | cons x r ihr =>
      intro h
      rw [szs] at h
      rw [dps, szs]
      have := h1 x (by omega)
      have := ihr (by omega)
      omega
theorem foldl_max_mem : ∀ (l : List Nat) (m x : Nat), x ∈ l → x ≤ l.foldl max m
  | [], m, x, h => by simp at h
  | y :: r, m, x, h => by
    rw [List.foldl_cons]
    rcases List.mem_cons.1 h with rfl | h
    · have : ∀ (l : List Nat) (a : Nat), a ≤ l.foldl max a := fun l => by
        induction l with
        | nil => intro a; exact Nat.le_refl _
        | cons z s ih => intro a; rw [List.foldl_cons]; exact Nat.le_trans (Nat.le_max_left a z) (ih _)
      exact Nat.le_trans (Nat.le_max_right m x) (this r _)
    · exact foldl_max_mem r _ x h
theorem flatA_d (w : World) (t : VT) (d b o : Nat) (x : Nd) (hx : x ∈ flatA w t d b o) : x.d ≤ d + t.sz := by
  have h1 := foldl_max_mem ((flatA w t d b o).map Nd.d) 0 x.d (List.mem_map.2 ⟨x, hx, rfl⟩)
  rw [flatA_mx] at h1
  have := (dp_le_n t.sz).1 t (Nat.le_refl _)
  omega
theorem results_boolCell2 {fn : Func} (hr : fn.results = #[.cell 2 4]) (tmps : Array Value) (R : Nat) (w : World) (b : Bool) (hp : tmps.getD 2 undef = .pointer (some ⟨R, 0, none⟩)) (hc : w.cell? ⟨R, 0, none⟩ = some (.bool b)) : (results fn tmps).run Try.prog w = .ok (.bool b) w := by
  have hp' : tmps[2]?.getD undef = .pointer (some ⟨R, 0, none⟩) := by simpa using hp
  simp [results, hr, hp', asAddr, loadVar, isAgg, run_underlying Try.underlying4, load, go_sem]
  simp [Sem.run, hc]

set_option maxRecDepth 100000 in
set_option maxHeartbeats 8000000 in
theorem tooMany_in (n0 : Nat) (hn : 5 ≤ n0) (G : Nat → Prop) (t : VT) (v : Value) (w : World) (h : VIs G w v t) (hsz : t.sz ≤ 1048576) :
    CallsIn Fence.wide n0 Try.prog 51 #[v] w fun e w' => e = .returned (.bool (decide (8192 < t.sz))) ∧ Below w.heap.size w w' := by
  have hro : Fence.wide.round = none := rfl
  have h1n : 1 ≤ n0 := by omega
  obtain ⟨aa, ca, ak, ck, e1, fd⟩ := h.form
  subst e1
  clear h
  refine callsIn_of_wp_marks Try.func51 rfl trivial ?_ hro
  simp only [Try.ntmps51, List.size_toArray, List.length_cons, List.length_nil, Nat.reduceAdd, Nat.reduceSub, Array.replicate_succ, Array.replicate_zero, List.push_toArray, List.append_toArray, List.nil_append, List.cons_append]
  gi_wp2_with fail
  refine ⟨trivial, ?_⟩
  refine (callsIn_wide.2 (nodes_any w.heap.size _)).mono ?_
  rintro e W2 ⟨rfl, hw2⟩
  have hO0 : W2.heap[w.heap.size]? = some (.cells #[.int .i64 t.k.1, .int .i64 t.k.2, .string t.tg, .string t.tx, .slice aa t.at_.length ca, .slice ak t.ks.length ck] 42) := (by rw [hw2]; rw [Below.heap_alloc _ _ _ (by simp <;> omega)]; rw [Below.heap_alloc _ _ _ (by simp <;> omega)]; rw [Below.heap_alloc _ _ _ (by simp <;> omega)]; have h := heap_alloc_new w (.cells #[.int .i64 t.k.1, .int .i64 t.k.2, .string t.tg, .string t.tx, .slice aa t.at_.length ca, .slice ak t.ks.length ck] 42); exact h)
  have hO1 : W2.heap[w.heap.size + 1]? = some (.cells #[.bool false] 4) := (by rw [hw2]; rw [Below.heap_alloc _ _ _ (by simp <;> omega)]; rw [Below.heap_alloc _ _ _ (by simp <;> omega)]; have h := heap_alloc_new (w.alloc (.cells #[.int .i64 t.k.1, .int .i64 t.k.2, .string t.tg, .string t.tx, .slice aa t.at_.length ca, .slice ak t.ks.length ck] 42)) (.cells #[.bool false] 4); rw [show (w.alloc (.cells #[.int .i64 t.k.1, .int .i64 t.k.2, .string t.tg, .string t.tx, .slice aa t.at_.length ca, .slice ak t.ks.length ck] 42)).heap.size = w.heap.size + 1 by simp] at h; exact h)
  have hO2 : W2.heap[w.heap.size + 2]? = some (.cells #[.int .i64 0] 3) := (by rw [hw2]; rw [Below.heap_alloc _ _ _ (by simp <;> omega)]; have h := heap_alloc_new ((w.alloc (.cells #[.int .i64 t.k.1, .int .i64 t.k.2, .string t.tg, .string t.tx, .slice aa t.at_.length ca, .slice ak t.ks.length ck] 42)).alloc (.cells #[.bool false] 4)) (.cells #[.int .i64 0] 3); rw [show ((w.alloc (.cells #[.int .i64 t.k.1, .int .i64 t.k.2, .string t.tg, .string t.tx, .slice aa t.at_.length ca, .slice ak t.ks.length ck] 42)).alloc (.cells #[.bool false] 4)).heap.size = w.heap.size + 2 by simp] at h; exact h)
  have hO3 : W2.heap[w.heap.size + 3]? = some (.cells #[.pointer (some ⟨w.heap.size, 0, none⟩)] 98) := (by rw [hw2]; have h := heap_alloc_new (((w.alloc (.cells #[.int .i64 t.k.1, .int .i64 t.k.2, .string t.tg, .string t.tx, .slice aa t.at_.length ca, .slice ak t.ks.length ck] 42)).alloc (.cells #[.bool false] 4)).alloc (.cells #[.int .i64 0] 3)) (.cells #[.pointer (some ⟨w.heap.size, 0, none⟩)] 98); rw [show (((w.alloc (.cells #[.int .i64 t.k.1, .int .i64 t.k.2, .string t.tg, .string t.tx, .slice aa t.at_.length ca, .slice ak t.ks.length ck] 42)).alloc (.cells #[.bool false] 4)).alloc (.cells #[.int .i64 0] 3)).heap.size = w.heap.size + 3 by simp] at h; exact h)
  have hb2 : Below w.heap.size w W2 := (by rw [hw2]; exact ((((Below.refl _ _).alloc (Nat.le_refl _) _).alloc (by simp <;> omega) _).alloc (by simp <;> omega) _).alloc (by simp <;> omega) _)
  have hs2 : W2.heap.size = w.heap.size + 4 := (by rw [hw2]; simp)
  have eB : (((w.alloc (.cells #[.int .i64 t.k.1, .int .i64 t.k.2, .string t.tg, .string t.tx, .slice aa t.at_.length ca, .slice ak t.ks.length ck] 42)).alloc (.cells #[.bool false] 4)).alloc (.cells #[.int .i64 0] 3)).heap.size = w.heap.size + 3 := by simp
  rw [eB]
  clear eB hw2
  obtain ⟨S, eS⟩ : ∃ S : Nat → Prop, S = fun k => k < W2.heap.size ∧ k ≠ w.heap.size + 1 ∧ k ≠ w.heap.size + 2 := ⟨_, rfl⟩
  have hSl : ∀ k, S k → k < W2.heap.size := fun k q => by (rw [eS] at q; exact q.1)
  have hS0 : ∀ k, k < w.heap.size → S k := fun k q => by (rw [eS]; exact ⟨by omega, by omega, by omega⟩)
  have hST : S w.heap.size := by (rw [eS]; exact ⟨by omega, by omega, by omega⟩)
  have HSq := nodes_seq (n0 - 1) S W2.heap.size (w.heap.size + 3) w.heap.size t W2 hSl (Nat.le_refl _) (by rw [cell_of_row _ _ _ _ _ _ hO3]; rfl) (VAt.boxed fd hb2 hO0 hS0) hST (by omega)
  have HNs : Hid (¬ S (w.heap.size + 1) ∧ ¬ S (w.heap.size + 2)) := ⟨(fun q => by rw [eS] at q; omega), (fun q => by rw [eS] at q; omega)⟩
  have HS2 : Hid (W2.heap.size = w.heap.size + 4) := hs2
  obtain ⟨xs, exs⟩ : ∃ xs, xs = flatA W2 t 0 w.heap.size 0 := ⟨_, rfl⟩
  rw [← exs] at HSq
  have HXl : Hid (xs.length = t.sz) := (by show _ = _; rw [exs]; exact flatA_len _ _ _ _ _)
  have HXs : Hid (xs = flatA W2 t 0 w.heap.size 0) := exs
  have HFd := hide9 (fd.below hb2)
  have HA0 : RnS w W2 S (B2 (w.heap.size + 1) (.bool false) 4 (w.heap.size + 2) (.int .i64 ((0 : Nat) : Int)) 3) W2 := RnS.mk2 hO1 hO2 hb2 hSl (fun q => by rw [eS] at q; omega) (fun q => by rw [eS] at q; omega) (by omega) (by omega)
  clear exs eS hS0 hST hb2 fd hO0 hO1 hO2 hO3
  gi_wp2
  refine range_of h1n (gf := 78) (lb := #[.pointer (some ⟨w.heap.size + 3, 0, none⟩)]) rfl (enters_of Try.func78 (by kernel_rfl) rfl) HSq KpN.trans (fun W l o o' hl ho hc _ => KpN.obj hl hSl ho hc) (Below.refl _ _) (fun _ => rfl)
    (fun k W => k ≤ 8192 ∧ RnS w W2 S (B2 (w.heap.size + 1) (.bool false) 4 (w.heap.size + 2) (.int .i64 (k : Int)) 3) W) (fun c k W => c = .ret ∧ 8192 < t.sz ∧ RnS w W2 S (B2 (w.heap.size + 1) (.bool true) 4 (w.heap.size + 2) (.int .i64 (k : Int)) 3) W)
    (fun k A B row h1 hg hr => ⟨h1.1, h1.2.grown hg hr⟩) (fun c k A B row hf hg hr => ⟨hf.1, hf.2.1, hf.2.2.grown hg hr⟩) ⟨Nat.zero_le _, HA0⟩
    (fun x a' W => a' = { tmps := #[.agg #[.int .i64 t.k.1, .int .i64 t.k.2, .string t.tg, .string t.tx, .slice aa t.at_.length ca, .slice ak t.ks.length ck], .pointer (some ⟨w.heap.size, 0, none⟩), .pointer (some ⟨w.heap.size + 1, 0, none⟩), .pointer (some ⟨w.heap.size + 2, 0, none⟩), .func (.func 78) #[] #[.pointer (some ⟨w.heap.size + 3, 0, none⟩)], .int .i64 (x.d : Int), .pointer (some ⟨x.b, x.o, none⟩), undef, undef, undef, undef], defers := [] }) (fun x a' u A B row h5 _ _ => h5) ?assign ?body ?done ?stop
  clear HA0
  case assign =>
    rintro l k hk W K hA hK
    have hfin := hK _ W (KeepsFrom.refl _ _) (KpN.of_below (Below.refl _ _) (fun j q => Nat.lt_of_lt_of_le (hA.2.sl j q) hA.2.kp.1)) hA rfl
    have HFin := hide9 hfin
    clear hK hfin hA
    generalize xs[k] = x at *
    simp only [encN] at *
    gi_wp2
    first | exact HFin.out | (simp; exact HFin.out)
  case body =>
    rintro l k hk a' W hlD ⟨hk8, hA⟩ rfl
    have hkl := hk
    rw [HXl.out] at hkl
    have hms := hsz
    have x1 := hA.cell (B2.at2 (show w.heap.size + 1 ≠ w.heap.size + 2 by omega) _ _ _ _)
    have x2 := hA.free (B2.at2 (show w.heap.size + 1 ≠ w.heap.size + 2 by omega) _ _ _ _)
    have y1 := hA.cell (B2.at1 _ _ _ _ _ _)
    have y2 := hA.free (B2.at1 _ _ _ _ _ _)
    have h9 := hA.set (B2.at2 (show w.heap.size + 1 ≠ w.heap.size + 2 by omega) _ _ _ _) (.int .i64 ((k + 1 : Nat) : Int))
    rw [B2.set2 (show w.heap.size + 1 ≠ w.heap.size + 2 by omega), Int.natCast_add] at h9
    have z1 := h9.cell (B2.at1 _ _ _ _ _ _)
    have z2 := h9.free (B2.at1 _ _ _ _ _ _)
    have z3 := h9.cell (B2.at2 (show w.heap.size + 1 ≠ w.heap.size + 2 by omega) _ _ _ _)
    have H9 := hide9 h9
    clear hA h9
    have w1 : IntKind.i64.wrap ((k : Int) + 1) = (k : Int) + 1 := by rw [IntKind.wrap_i64]; omega
    have hne1 : w.heap.size + 2 ≠ w.heap.size + 1 := by omega
    by_cases hgt : 8192 < k + 1
    · have g1 : (8192 : Int) < (k : Int) + 1 := by omega
      gi_wp2
      have h8 := H9.out.set (B2.at1 _ _ _ _ _ _) (.bool true)
      rw [B2.set1] at h8
      exact ⟨(keepsFrom_set _ _ _).trans (keepsFrom_set _ _ _), rfl, by omega, h8⟩
    · have g1 : ¬ (8192 : Int) < (k : Int) + 1 := by omega
      gi_wp2
      exact ⟨keepsFrom_set _ _ _, KpN.set HNs.out.2 (by have := HS2.out; omega), by omega, H9.out⟩
  case done =>
    rintro Dd W hDd ⟨hk8, hA⟩ hDf
    rw [HXl.out] at hk8
    rw [HXl.out] at hA
    have HA := hide9 hA
    have HDf := hide9 hDf
    clear hDf
    have x1 := hA.cell (B2.at1 _ _ _ _ _ _)
    have x2 := hA.free (B2.at1 _ _ _ _ _ _)
    have h8 := hA.set (B2.at1 _ _ _ _ _ _) (.bool false)
    rw [B2.set1] at h8
    have H8 := hide9 h8
    have HT : Hid (decide (8192 < t.sz) = false) := decide_eq_false (by omega)
    have HDg : Hid ((W.setCell ⟨w.heap.size + 1, 0, none⟩ (.bool false)).heap[Dd]? = some (.deferred (some []))) := (RowKit.Below.heap_setCell _ _ _ _ (by have := HS2.out; show Dd ≠ w.heap.size + 1; omega)).trans HDf.out
    clear hA h8
    gi_wp2
    refine ⟨by simp, .inl ⟨_, _, rfl, run_takeDeferred HDg.out, ?_⟩⟩
    have hE := H8.out.grown (grownBy_putObj' _ Dd (.deferred none)) (fun r e => by cases e; exact ⟨hDd, _, HDg.out, rfl⟩)
    exact ⟨_, results_boolCell2 rfl _ (w.heap.size + 1) _ false rfl (hE.cell (B2.at1 _ _ _ _ _ _)), ret_bool (by rw [HT.out]), hE.bel⟩
  case stop =>
    rintro D c k W hD hk ⟨rfl, h8, hA⟩ hDf
    have HA := hide9 hA
    have HDf := hide9 hDf
    have HT : Hid (decide (8192 < t.sz) = true) := decide_eq_true h8
    clear hA hDf
    gi_wp2
    refine ⟨by simp, .inl ⟨_, _, rfl, run_takeDeferred HDf.out, ?_⟩⟩
    have hE := HA.out.grown (grownBy_putObj' _ D (.deferred none)) (fun r e => by cases e; exact ⟨hD, _, HDf.out, rfl⟩)
    exact ⟨_, results_boolCell2 rfl _ (w.heap.size + 1) _ true rfl (hE.cell (B2.at1 _ _ _ _ _ _)), ret_bool (by rw [HT.out]), hE.bel⟩

theorem tooMany_any (G : Nat → Prop) (t : VT) (v : Value) (w : World) (h : VIs G w v t) (hsz : t.sz ≤ 1048576) : Calls Try.prog 51 #[v] w fun e w' => e = .returned (.bool (decide (8192 < t.sz))) ∧ Below w.heap.size w w' := callsIn_wide.1 (tooMany_in 5 (Nat.le_refl _) G t v w h hsz)

end Go.Proofs.Ytljmlbidbacdjab
