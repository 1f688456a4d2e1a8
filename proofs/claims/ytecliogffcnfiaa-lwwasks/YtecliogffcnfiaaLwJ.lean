/- Names and stamps gathered; names sorted; a map's stamps. -/
import Derived.Test.YtecliogffcnfiaaLwI
import Derived.Test.YtecliogffcnfiaaLaysZ
import Derived.Test.YtecliogffcnfiaaLwF
import Derived.Laws.EntriesVeiled
import Derived.Maps.AppendAt
import Derived.OwnWalkIn
import Derived.RangeFuncBox
import Derived.Sort.OwnSorted
namespace Go.Proofs.Ytecliogffcnfiaa
open Go.RowKit Go.Shelf Go.Sort
set_option linter.unusedVariables false
set_option linter.unusedSimpArgs false

attribute [local go_sem] Oper.semAt_some


theorem nmCells_one (x : ByteArray) : ∀ u ∈ nmCells x, u.oneCell' = true := by
  intro u hu
  simp only [nmCells, List.mem_cons, List.not_mem_nil, or_false] at hu
  subst hu
  rfl

set_option maxRecDepth 100000 in
set_option maxHeartbeats 8000000 in
theorem appS_in (n : Nat) (hn : 5 ≤ n) (gf : Nat) (lb : Array Value) (eg : ∀ args w, (callFunc gf args).run Try.prog w = .ok (.enter gf args) w) (S : Nat → Prop) (xs : List (ByteArray)) (w : World) (hxl : xs.length ≤ 16384)
    (hS : ∀ k, S k → k < w.heap.size) (hseq : SeqOf (n - 1) Try.prog gf lb encN (KeepsS S) xs w) :
    CallsIn Fence.wide n Try.prog 39 #[.slice none 0 0, .func (.func gf) #[] lb] w fun e w' => ∃ v', e = .returned v' ∧ OwnNm w.heap.size w' v' xs ∧ Below w.heap.size w w' := by
  obtain ⟨i0, hi, hz0, hz1, hz2⟩ := info_parts infoStr
  have hro : Fence.wide.round = none := rfl
  have h1n : 1 ≤ n := by omega
  refine callsIn_of_wp_marksN Try.func39 rfl trivial ?_ hro
  simp only [Try.ntmps39, List.size_toArray, List.length_cons, List.length_nil, Nat.reduceAdd, Nat.reduceSub, Array.replicate_succ, Array.replicate_zero, List.push_toArray, List.append_toArray, List.nil_append, List.cons_append]
  gi_wp2
  obtain ⟨W2, eW2⟩ : ∃ X, X = w.alloc (.cells #[.slice none 0 0] 61) := ⟨_, rfl⟩
  have hb2 : Below w.heap.size w W2 := by rw [eW2]; exact (Below.refl _ _).alloc (Nat.le_refl _) _
  have hsz2 : W2.heap.size = w.heap.size + 1 := by rw [eW2]; simp
  have HX2 : Hid (BxC w.heap.size [.slice none 0 0] 61 W2) := by rw [eW2]; exact BxC.new _ _ _
  rw [← eW2]
  clear eW2
  have HS2 : Hid (∀ k, S k → k < W2.heap.size) := fun k hk => by have := hS k hk; omega
  have HA0 : Hid (ColB nmCells 1 9 61 w W2 w.heap.size S (.slice none 0 0) [] W2) := ⟨HX2.out, OwnE.nil0 _ _, hb2, KeepsS.refl _ _, HS2.out, Nat.le_refl _, by omega, fun hk => by have := hS _ hk; omega, fun k e => by cases e⟩
  clear hS HX2
  refine range_of h1n (gf := gf) (lb := lb) rfl eg hseq KeepsS.trans (keepsSK_b HS2.out) hb2 (fun _ => rfl)
    (fun k W => ∃ ov, ColB nmCells 1 9 61 w W2 w.heap.size S ov (xs.take k) W) (fun _ _ _ => False)
    (fun k A B row ⟨ov, h1⟩ hg hr => ⟨ov, h1.grown hg hr⟩) (fun c k A B row hf _ _ => hf) ⟨_, HA0.out⟩
    (fun x a' W => a' = { tmps := #[.slice none 0 0, .func (.func gf) #[] lb, .pointer (some ⟨w.heap.size, 0, none⟩), undef, .slice none 0 0, .string x, .func (.func gf) #[] lb, .string x, undef, undef, undef, undef, undef], defers := [] })
    (fun x a' u A B row h1 hg hr => h1)
    ?assign ?body ?done ?stop
  case assign =>
    rintro l k hk W K ⟨ov, hA⟩ hK
    obtain ⟨x, hx⟩ : ∃ x, x = xs[k] := ⟨_, rfl⟩
    rw [← hx] at hK ⊢
    clear hx
    have HFin : Hid (K { tmps := #[.slice none 0 0, .func (.func gf) #[] lb, .pointer (some ⟨w.heap.size, 0, none⟩), undef, .slice none 0 0, .string x, .func (.func gf) #[] lb, .string x, undef, undef, undef, undef, undef], defers := [] } W) := hK _ W (KeepsFrom.refl _ _) (KeepsS.refl _ _) ⟨ov, hA⟩ rfl
    clear hK hA
    simp only [encN]
    gi_wp2
    exact HFin.out
  case body =>
    rintro l k hk a' W hlD ⟨ov, hA⟩ rfl
    have HTk : Hid (xs.take (k + 1) = xs.take k ++ [xs[k]]) := List.take_succ_eq_append_getElem hk
    obtain ⟨E, eE⟩ : ∃ E, E = xs.take k := ⟨_, rfl⟩
    have hTl : E.length ≤ 16384 := by (rw [eE, List.length_take]; omega)
    rw [← eE] at hA HTk
    generalize xs[k] = x at *
    clear eE
    obtain ⟨aw, cw, eo⟩ := hA.own.form
    subst eo
    have HA : Hid (ColB nmCells 1 9 61 w W2 w.heap.size S (.slice aw E.length cw) E W) := hA
    clear hA
    have xo := HA.out.box.cell 0 _ rfl
    have hal : Below W.heap.size W (W.alloc (.cells #[.string x] 9)) := (Below.refl _ _).alloc (Nat.le_refl _) _
    have HAa : Hid (ColB nmCells 1 9 61 w W2 w.heap.size S (.slice aw E.length cw) E (W.alloc (.cells #[.string x] 9))) := HA.out.below hal
    have HKa : Hid (KeepsFrom W2.heap.size W (W.alloc (.cells #[.string x] 9)) ∧ KeepsS S W (W.alloc (.cells #[.string x] 9))) := ⟨keepsFrom_below hal, KeepsS.of_below hal (fun j hj => Nat.lt_of_lt_of_le (HA.out.kl j hj) HA.out.size)⟩
    have HNw : Hid (∀ j u, ([.string x] : List Value)[j]? = some u → (W.alloc (.cells #[.string x] 9)).cell? ((⟨W.heap.size, 0, none⟩ : Addr).add j) = some u) := fun j u hj => by
      rw [Addr.add_lit, cell_of_row _ _ _ _ _ _ (heap_alloc_new W _)]
      simpa using hj
    have hsz : w.heap.size ≤ (W.alloc (.cells #[.string x] 9)).heap.size := HAa.out.bel.size
    clear hal
    gi_wp2_with (gi_at_builtin; refine wpListIn_append_own_at _ rfl _ _ 61 rfl w.heap.size 9 i0 (.string ⟨#[]⟩) 1 16 Try.underlying61 hi hz0 hz1 hz2 rfl (by decide) _ _ _ rfl HAa.out.own ⟨W.heap.size, 0, none⟩ 1 1 [.string x] rfl rfl HNw.out (nmCells_one x) (by unfold maxLen; omega) (by omega) hsz ?_; intro v3 w3 hown3 hgrow3 hat3; obtain ⟨g3, c3, e3⟩ : ∃ g c, v3 = .slice (some ⟨g, 0, none⟩) (E.length + 1) c := (ownsRow_succ hown3); subst e3; have HP3 := hide7 (HAa.out.push (by decide) (x := x) hown3 hgrow3 hat3); have xo3 := HP3.out.2.1.cell 0 _ rfl; have xf3 := HP3.out.2.1.free 0; clear hown3 hgrow3 hat3)
    exact ⟨KeepsFrom.trans HKa.out.1 (HP3.out.2.2.1 _), HKa.out.2.trans HP3.out.2.2.2.1, _, by rw [HTk.out]; exact HP3.out.1⟩
  case done =>
    rintro Dd W hDd ⟨ov, hA⟩ hDf
    rw [List.take_length] at hA
    have HA : Hid (ColB nmCells 1 9 61 w W2 w.heap.size S ov xs W) := hA
    have HDf : Hid (W.heap[Dd]? = some (.deferred (some []))) := hDf
    have x1 := hA.box.cell 0 _ rfl
    clear hA hDf
    gi_wp2
    refine ⟨by simp, .inl ⟨_, _, rfl, run_takeDeferred HDf.out, ?_⟩⟩
    have hgp : W.grownBy (W.putObj Dd (.deferred none)) (some Dd) := grownBy_putObj' W Dd (.deferred none)
    have hE2 := HA.out.grown hgp (fun r e => by cases e; exact ⟨hDd, _, HDf.out, rfl⟩)
    exact ⟨_, results_tmp rfl _ _ _, ov, rfl, hE2.own, hE2.bel⟩
  case stop => rintro D c k W hD hk hf; exact hf.elim
theorem colS_any (gf : Nat) (lb : Array Value) (eg : ∀ args w, (callFunc gf args).run Try.prog w = .ok (.enter gf args) w) (S : Nat → Prop) (xs : List (ByteArray)) (w : World) (hxl : xs.length ≤ 16384)
    (hS : ∀ k, S k → k < w.heap.size) (hseq : SeqOf 4 Try.prog gf lb encN (KeepsS S) xs w) :
    Calls Try.prog 32 #[.func (.func gf) #[] lb] w fun e w' => ∃ v', e = .returned v' ∧ OwnNm w.heap.size w' v' xs ∧ Below w.heap.size w w' := by
  go_enter Try.func32, Try.ntmps32
  go_wp2_with fail
  refine (callsIn_wide.1 (appS_in 5 (Nat.le_refl _) gf lb eg S xs w hxl hS hseq)).mono ?_
  rintro e w1 ⟨v1, rfl, ho, hb⟩
  have HO : Hid (OwnNm w.heap.size w1 v1 xs) := ho
  have HB : Hid (Below w.heap.size w w1) := hb
  obtain ⟨a1, c1, e1⟩ := ho.form
  subst e1
  clear ho hb
  go_wp2
  go_ret
  exact ⟨_, rfl, HO.out, HB.out⟩

theorem valS_any (v : Value) (w : World) (hf : ∃ a n c, v = .slice a n c) :
    Calls Try.prog 23 #[v] w fun e w' => e = .returned (.func (.func 34) #[] #[.pointer (some ⟨w.heap.size, 0, none⟩)]) ∧ w' = w.alloc (.cells #[v] 61) := by
  obtain ⟨a, n, c, rfl⟩ := hf
  go_enter Try.func23, Try.ntmps23
  go_wp2
  go_ret
  exact ⟨rfl, rfl⟩

theorem valA_any (v : Value) (w : World) (hf : ∃ a n c, v = .slice a n c) :
    Calls Try.prog 15 #[v] w fun e w' => e = .returned (.func (.func 24) #[] #[.pointer (some ⟨w.heap.size, 0, none⟩)]) ∧ w' = w.alloc (.cells #[v] 34) := by
  obtain ⟨a, n, c, rfl⟩ := hf
  go_enter Try.func15, Try.ntmps15
  go_wp2
  go_ret
  exact ⟨rfl, rfl⟩

/-- Names as rows of bytes. -/
theorem encStr_tx (x : ByteArray) : encStr (txL x) = .string x := by
  have : (⟨(txL x).toArray⟩ : ByteArray) = x := by unfold txL; simp
  show Value.string ⟨(txL x).toArray⟩ = _
  rw [this]
theorem tx_of (l : List UInt8) : txL ⟨l.toArray⟩ = l := by simp [txL]
theorem flat_nm : ∀ N : List ByteArray, flatE nmCells N = (N.map txL).map encStr
  | [] => rfl
  | a :: l => by rw [flatE_cons, flat_nm l]; simp [nmCells, encStr_tx]
/-- The names in their order. -/
def srtN (N : List ByteArray) : List ByteArray := ((N.map txL).mergeSort fun x y => decide (x ≤ y)).map fun l => ⟨l.toArray⟩
theorem srtN_tx (N : List ByteArray) : (srtN N).map txL = (N.map txL).mergeSort fun x y => decide (x ≤ y) := by
  unfold srtN
  rw [List.map_map]
  exact List.map_id'' (fun l => tx_of l) _
theorem srtN_perm (N : List ByteArray) : (srtN N).Perm N := by
  have h1 : ((N.map txL).mergeSort fun x y => decide (x ≤ y)).Perm (N.map txL) := List.mergeSort_perm _ _
  have h2 := h1.map (fun l : List UInt8 => (⟨l.toArray⟩ : ByteArray))
  rw [List.map_map] at h2
  have h3 : (N.map fun x => (fun l : List UInt8 => (⟨l.toArray⟩ : ByteArray)) (txL x)) = N := List.map_id'' (fun x => tx_ext (tx_of _)) _
  exact h2.trans (by rw [show ((fun l : List UInt8 => (⟨l.toArray⟩ : ByteArray)) ∘ txL) = fun x => (fun l : List UInt8 => (⟨l.toArray⟩ : ByteArray)) (txL x) from rfl, h3])
theorem srtN_pw {N : List ByteArray} (h : N.Nodup) : (srtN N).Pairwise fun a b => ltT a b = true := by
  have hs : ((N.map txL).mergeSort fun x y => decide (x ≤ y)).Pairwise (fun x y => decide (x ≤ y) = true) := List.pairwise_mergeSort (fun a b c h1 h2 => by simp only [decide_eq_true_eq] at *; exact List.le_trans h1 h2) (fun a b => by simp only [Bool.or_eq_true, decide_eq_true_eq]; exact List.le_total a b) _
  rw [← srtN_tx, List.pairwise_map] at hs
  have hn : (srtN N).Pairwise (fun a b => a ≠ b) := (srtN_perm N).nodup_iff.2 h
  refine (hs.and hn).imp ?_
  rintro a b ⟨h1, h2⟩
  unfold ltT
  rw [decide_eq_true_eq] at h1 ⊢
  refine Classical.byContradiction fun h3 => h2 (tx_ext ?_)
  have h4 : txL b ≤ txL a := by exact h3
  exact List.le_antisymm h1 h4
theorem srtN_len (N : List ByteArray) : (srtN N).length = N.length := (srtN_perm N).length_eq
theorem OwnE.len' {α : Type} {enc : α → List Value} {n : Nat} {T : TypeId} {B : Nat} {w : World} {D : List α} {a : Option Addr} {m c : Nat} (h : OwnE enc n T B w (.slice a m c) D) : m = D.length := by
  obtain ⟨a2, c2, e⟩ := h.form
  injection e
set_option maxHeartbeats 2000000 in
/-- A row of names sorted. -/
theorem sortN_any (B : Nat) (v : Value) (N : List ByteArray) (w : World) (h : OwnNm B w v N) (hl : N.length ≤ 16384) :
    Calls Try.prog 33 #[v] w fun e w' => e = .returned (.tuple #[]) ∧ OwnNm B w' v (srtN N) ∧ ∀ A : Nat, (∀ k, v.ownBlock = some k → A ≤ k) → Below A w w' := by
  have h0 : w.ownsRow B 9 1 v (N.map txL).length ((N.map txL).map encStr) := by
    rw [List.length_map, ← flat_nm]
    exact h
  rcases h0.2 with ⟨rfl, hn⟩ | ⟨g, cap, cur, rfl, hbase, hb, h1, h2, h3, h4⟩
  · refine (AnyM.slices_Sort_string_none Try.sortZ none 0 w).mono ?_
    rintro e w' ⟨rfl, rfl⟩
    have hN : N = [] := by
      cases N with
      | nil => rfl
      | cons a l => simp at hn
    subst hN
    exact ⟨rfl, by simpa [srtN] using h, fun A _ => Below.refl _ _⟩
  · have hg : g < w.heap.size := (Array.getElem?_eq_some_iff.1 hb).1
    refine (AnyM.slices_Sort_string Try.sortZ g 0 cap (N.map txL) w (holds_of_block hb (by simpa using h4)) hg (by rw [List.length_map]; omega)).mono ?_
    rintro e w' ⟨rfl, n, os, rfl⟩
    have ho := ownsRow_sorted (n := n) (os := os) (ts := (N.map txL).mergeSort fun x y => decide (x ≤ y)) (by simp) hbase hb h1 h2 h3
    refine ⟨rfl, ?_, fun A hA => (Below.refl A w).grown (grownBy_sorted _) (Nat.le_of_lt (Nat.lt_of_le_of_lt (hA g rfl) hg)) (fun j e => hA j e)⟩
    show World.ownsRow _ B _ 1 _ (srtN N).length (flatE nmCells (srtN N))
    rw [flat_nm, srtN_tx, srtN_len]
    rw [List.length_map] at ho ⊢
    exact ho

set_option maxHeartbeats 2000000 in
theorem sorted_any (B1 c : Nat) (a : Option Addr) (N : List ByteArray) (S : Nat → Prop) (w : World) (hS1 : S B1) (hSl : ∀ k, S k → k < w.heap.size) (hB1 : w.cell? ⟨B1, 0, none⟩ = some (.slice a N.length c)) (hR : LsE nmCells 1 S w (.slice a N.length c) N) (hl : N.length ≤ 16384) :
    Calls Try.prog 22 #[.func (.func 34) #[] #[.pointer (some ⟨B1, 0, none⟩)]] w fun e w' => ∃ v', e = .returned v' ∧ OwnNm w.heap.size w' v' (srtN N) ∧ Below w.heap.size w w' := by
  have HQ : Hid (SeqOf 4 Try.prog 34 #[.pointer (some ⟨B1, 0, none⟩)] encN (KeepsS S) N w) := valsS_seq 4 (by omega) B1 c S a N w hS1 hSl hB1 hR hl
  have HSl : Hid (∀ k, S k → k < w.heap.size) := hSl
  clear hS1 hB1 hR hSl
  go_enter Try.func22, Try.ntmps22
  go_wp2_with fail
  refine (colS_any 34 _ (enters_of Try.func34 (by kernel_rfl) rfl) S N w hl HSl.out HQ.out).mono ?_
  rintro e w1 ⟨v1, rfl, ho, hb⟩
  have HO : Hid (OwnNm w.heap.size w1 v1 N) := ho
  have HB : Hid (Below w.heap.size w w1) := hb
  obtain ⟨a1, c1, e1⟩ := ho.form
  subst e1
  clear ho hb HQ HSl
  go_wp2_with fail
  refine (sortN_any w.heap.size _ N w1 HO.out hl).mono ?_
  rintro e w2 ⟨rfl, ho, hb⟩
  have HB2 : Hid (Below w.heap.size w w2) := HB.out.trans (hb w.heap.size (fun k e => (HO.out.lt k e).1))
  have HO2 : Hid (OwnNm w.heap.size w2 (.slice a1 N.length c1) (srtN N)) := ho
  clear ho hb HO HB
  go_wp2
  go_ret
  exact ⟨_, rfl, HO2.out, HB2.out⟩

end Go.Proofs.Ytecliogffcnfiaa
