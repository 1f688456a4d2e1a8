/- Trees that came in, opened as data, with their bulk. -/
import Derived.Test.YtljmlbidbacdjabRows
import Derived.Test.YtljmlbidbacdjabVtE
import Derived.ProofKit
import Derived.OpenShut
import Derived.ChangeOld
import Derived.ChangeSlices
import Derived.SizedLaws
import Derived.Below
import Derived.Carry
import Derived.Lib.SmallJoins
import Derived.Deep.Slices
namespace Go.Proofs.Ytljmlbidbacdjab
open Go.ChangeShapes Go.WideShapes Go.ChangeAt Go.RowKit Go.Joins Go.Deep
set_option linter.unusedVariables false
set_option linter.constructorNameAsVariable false
set_option maxRecDepth 100000

theorem ownI : ownKnob Try.prog.godebug = none := by kernel_rfl
theorem laidOutI : laidOutB Try.prog = true := by kernel_rfl
theorem cellsIntV : Try.prog.cellsOf 3 = 1 := by kernel_rfl
theorem cellsStampV : Try.prog.cellsOf 24 = 2 := by kernel_rfl
theorem cellsAttrV : Try.prog.cellsOf 63 = 2 := by kernel_rfl
theorem cellsNodeV : Try.prog.cellsOf 42 = 6 := by kernel_rfl
theorem cellsStrV : Try.prog.cellsOf 9 = 1 := by kernel_rfl
theorem cellsAtsV : Try.prog.cellsOf 39 = 1 := by kernel_rfl
theorem cellsNdsV : Try.prog.cellsOf 40 = 1 := by kernel_rfl
theorem array6 {α : Type} {cs : Array α} (h : cs.size = 6) : ∃ c0 c1 c2 c3 c4 c5, cs = #[c0, c1, c2, c3, c4, c5] := by
  obtain ⟨l⟩ := cs
  match l, h with
  | [c0, c1, c2, c3, c4, c5], _ => exact ⟨c0, c1, c2, c3, c4, c5, rfl⟩
theorem list6 {α : Type} {cs : List α} (h : cs.length = 6) : ∃ c0 c1 c2 c3 c4 c5, cs = [c0, c1, c2, c3, c4, c5] := by
  match cs, h with
  | [c0, c1, c2, c3, c4, c5], _ => exact ⟨c0, c1, c2, c3, c4, c5, rfl⟩
theorem list2 {α : Type} {cs : List α} (h : cs.length = 2) : ∃ c0 c1, cs = [c0, c1] := by
  match cs, h with
  | [c0, c1], _ => exact ⟨c0, c1, rfl⟩
theorem sized_struct {H : Type} {P : Program} {ts : List TypeId} {ds : List (DataW H)} (h : (DataW.weightsEach P ts ds).all (· ≤ reachBytes) = true) {j : Nat} {t : TypeId} {fs : Array Field} {parts : List (DataW H)} (ht : ts[j]? = some t) (hd : ds[j]? = some (.agg parts)) (hu : P.underlying t = some (.struct fs)) : (DataW.weightsEach P (fs.toList.map (·.type)) parts).all (· ≤ reachBytes) = true := by
  rw [List.all_eq_true]
  intro n hn
  exact List.all_eq_true.1 h n (DataW.weights_mem_each ht hd n (by unfold DataW.weights; rw [hu]; exact hn))
theorem array2 {α : Type} {cs : Array α} (h : cs.size = 2) : ∃ c0 c1, cs = #[c0, c1] := by
  obtain ⟨l⟩ := cs
  match l, h with
  | [c0, c1], _ => exact ⟨c0, c1, rfl⟩
section
variable {H : Type} {enc : TypeId × Value → H} {W : World} {held : Bool}

theorem open_stampG {n : Nat} {a b : Value} {y : DataW H × List MemPlace} (h : DataW.trod enc Try.prog W 0 (fun _ => true) held n 24 [a, b] = some y) :
    ∃ s : St, a = .int .i64 s.1 ∧ b = .int .i64 s.2 := by
  obtain ⟨y0, y1, m, hx, _, h0, h1⟩ := trod_struct2 Try.underlying24 h
  obtain ⟨c, e0, _, w0⟩ := DataW.trod_int Try.underlying3 h0
  obtain ⟨r, e1, _, w1⟩ := DataW.trod_int Try.underlying3 h1
  rw [cellsIntV] at e0 e1
  simp at e0 e1
  exact ⟨(c, r), e0, e1⟩

theorem open_stampV {r : Reach} {b0 : Nat} {v : Value} {d : DataW H} {p : List MemPlace} (hv : Value.okWide Try.prog W r b0 24 v) (h : DataW.Trod enc Try.prog W 0 (fun _ => true) held 24 v d p) :
    ∃ s : St, v = .agg #[.int .i64 s.1, .int .i64 s.2] := by
  obtain ⟨cs, rfl, hsz⟩ := okWide_struct Try.underlying24 hv
  obtain ⟨c0, c1, rfl⟩ := array2 (hsz.trans cellsStampV)
  obtain ⟨fuel, hf⟩ := h
  have hf2 : DataW.trod enc Try.prog W 0 (fun _ => true) held fuel 24 [c0, c1] = some (d, p) := by simpa [Value.cells] using hf
  obtain ⟨s, rfl, rfl⟩ := open_stampG hf2
  exact ⟨s, rfl⟩

theorem weights_all {P : Program} {e : TypeId} {l : List (DataW H)} {d : DataW H} (hd : d ∈ l) {n : Nat} (hn : n ∈ d.weights P e) : n ∈ DataW.weightsAll P e l := by
  induction l with
  | nil => simp at hd
  | cons x l ih =>
    rw [DataW.weightsAll, List.mem_append]
    rcases List.mem_cons.1 hd with rfl | hd
    · exact .inl hn
    · exact .inr (ih hd)


theorem text_size {ts : List TypeId} {ds : List (DataW H)} (h : (DataW.weightsEach Try.prog ts ds).all (· ≤ reachBytes) = true) {j : Nat} {b : ByteArray} (ht : ts[j]? = some 9) (hd : ds[j]? = some (.lit (.string b.data.toList))) : b.size ≤ 140737488355328 := by
  have h1 := sized_string h ht hd
  have h2 : reachBytes ≤ 140737488355328 := by decide
  have h3 : b.size = b.data.size := rfl
  rw [Array.length_toList] at h1
  omega
theorem sized_one {t : TypeId} {d : DataW H} (hw : ∀ n ∈ d.weights Try.prog t, n ≤ reachBytes) : (DataW.weightsEach Try.prog [t] [d]).all (· ≤ reachBytes) = true := by
  rw [List.all_eq_true]
  intro n hn
  have hn' : n ∈ d.weights Try.prog t := by simpa [DataW.weightsEach] using hn
  exact decide_eq_true (hw n hn')
theorem weights_field {t : TypeId} {fs : Array Field} {parts : List (DataW H)} (hw : ∀ n ∈ (DataW.agg parts).weights Try.prog t, n ≤ reachBytes) (hu : Try.prog.underlying t = some (.struct fs)) {j : Nat} {ty : TypeId} {d : DataW H} (ht : (fs.toList.map (·.type))[j]? = some ty) (hd : parts[j]? = some d) : ∀ n ∈ d.weights Try.prog ty, n ≤ reachBytes := fun n hn => by
  refine hw n ?_
  unfold DataW.weights
  rw [hu]
  exact DataW.weights_mem_each ht hd n hn

set_option maxHeartbeats 4000000 in
theorem open_attrG {fuel : Nat} {c0 c1 : Value} {x : DataW H × List MemPlace} (hf : DataW.trod enc Try.prog W 0 (fun _ => true) held fuel 63 [c0, c1] = some x) (hw : ∀ n ∈ x.1.weights Try.prog 63, n ≤ reachBytes) :
    ∃ a : At, [c0, c1] = atCells a ∧ a.1.size ≤ 140737488355328 := by
  obtain ⟨xs, n, _, hx, _, hlen, hfs⟩ := DataW.trod_struct Try.underlying63 hf
  match xs, hlen with
  | [x0, x1], _ =>
    have g0 : DataW.trod enc Try.prog W 0 (fun _ => true) held n 9 [c0] = some x0 := by have := hfs 0 _ rfl; simpa [cellsStrV] using this
    have g1 : DataW.trod enc Try.prog W 0 (fun _ => true) held n 9 [c1] = some x1 := by have := hfs 1 _ rfl; simpa [cellsStrV] using this
    obtain ⟨nm, e, e7, _⟩ := DataW.trod_string Try.underlying9 g0
    simp at e; subst e
    obtain ⟨vl, e, e8, _⟩ := DataW.trod_string Try.underlying9 g1
    simp at e; subst e
    refine ⟨(nm, vl), rfl, ?_⟩
    have ex : x.1 = DataW.agg [.lit (.string nm.data.toList), .lit (.string vl.data.toList)] := by rw [hx, e7, e8]; rfl
    rw [ex] at hw
    exact text_size (sized_struct (sized_one hw) (j := 0) rfl rfl Try.underlying63) (j := 0) rfl rfl

/-- A list of attributes that came in. -/
theorem open_attrs {n : Nat} {v : Value} {x : DataW H × List MemPlace} (hf : DataW.trod enc Try.prog W 0 (fun _ => true) held n 39 [v] = some x) (hw : ∀ n ∈ x.1.weights Try.prog 39, n ≤ reachBytes) : ∃ L : List At, LsE atCells 2 (fun _ => True) W v L ∧ L.length ≤ 4398046511104 ∧ ∀ y ∈ L, y.1.size ≤ 140737488355328 := by
  rcases open_slice Try.underlying39 hf with ⟨hc, hx⟩ | ⟨a, len, cap, m, k, D, Pq, hc, _, hl, hm, hmm, hx, hel⟩
  · simp at hc
    subst hc
    exact ⟨[], LsE.nil _ _ _, by simp, fun r h => absurd h (by simp)⟩
  · simp at hc
    subst hc
    have hml : len ≤ m := by rw [hmm]; simp only [if_true]; exact hl
    have hwe : ∀ i, i < len → ∀ q ∈ (D i).weights Try.prog 63, q ≤ reachBytes := fun i hi q hq => by
      refine hw q ?_
      rw [hx]
      show q ∈ (DataW.slice _ _).weights Try.prog _
      rw [DataW.weights, Try.underlying39]
      simp only [List.mem_cons, List.mem_append]
      exact .inr (.inl (weights_all (List.mem_map.2 ⟨i, List.mem_range.2 hi, rfl⟩) hq))
    have hch : ∀ i, i < len → ∃ c : At, c.1.size ≤ 140737488355328 ∧ ∀ b o, a = ⟨b, o, none⟩ → ∀ j u, (atCells c)[j]? = some u → W.cell? ⟨b, o + i * 2 + j, none⟩ = some u := fun i hi => by
      obtain ⟨cs', h1, h2⟩ := hel i (by omega)
      rw [cellsAttrV] at h1
      obtain ⟨hb1, hb2, hb3⟩ := World.cells?_some h1
      obtain ⟨c0, c1, rfl⟩ := list2 hb2
      obtain ⟨ac, ho, hsm⟩ := open_attrG h2 (hwe i hi)
      refine ⟨ac, hsm, fun b o ea j u hj => ?_⟩
      subst ea
      have hj7 : j < 2 := (List.getElem?_eq_some_iff.1 hj).1
      have h5 := hb3 j hj7
      rw [Addr.add_lit, Addr.add_lit] at h5
      rw [h5, ho]
      exact hj
    obtain ⟨c, hcc⟩ : ∃ c : Nat → At, ∀ i, i < len → (c i).1.size ≤ 140737488355328 ∧ ∀ b o, a = ⟨b, o, none⟩ → ∀ j u, (atCells (c i))[j]? = some u → W.cell? ⟨b, o + i * 2 + j, none⟩ = some u := by
      refine ⟨fun i => if h : i < len then Classical.choose (hch i h) else (noTx, noTx), fun i hi => ?_⟩
      simp only [dif_pos hi]
      exact Classical.choose_spec (hch i hi)
    have hw0 := hw ((len + (m - len)) * Try.prog.bytesOf 63) (by
      rw [hx]
      show _ ∈ (DataW.slice _ _).weights Try.prog _
      rw [DataW.weights, Try.underlying39]
      simp)
    have hb0 : Try.prog.bytesOf 63 = 32 := by kernel_rfl
    have h2 : reachBytes ≤ 140737488355328 := by decide
    rw [hb0] at hw0
    have hLL : ((List.range len).map c).length = len := by simp
    refine ⟨(List.range len).map c, ⟨some a, cap, by rw [hLL], by rw [hLL]; exact hl, by rw [hLL]; omega, ?_⟩, by rw [hLL]; omega, fun r hr => ?_⟩
    rotate_left
    · obtain ⟨i, hi, rfl⟩ := List.mem_map.1 hr
      exact (hcc i (List.mem_range.1 hi)).1
    by_cases h0 : len = 0
    · left; simp [h0]
    · right
      obtain ⟨b, o, spot⟩ := a
      obtain ⟨cs', h1, _⟩ := hel 0 (by omega)
      rw [cellsAttrV] at h1
      obtain ⟨hb1, hb2, hb3⟩ := World.cells?_some h1
      have g0 := hb3 0 (by omega)
      rw [List.getElem?_eq_getElem (by omega)] at g0
      have hspot : spot = none := by simpa [Addr.add] using World.cell?_spot g0
      subst hspot
      have g1 := (hcc 0 (by omega)).2 b o rfl 0 _ rfl
      refine ⟨b, o, rfl, trivial, cell_lt g1, fun i hi j u hj => ?_⟩
      rw [hLL] at hi
      rw [List.getElem_map, List.getElem_range] at hj
      exact (hcc i hi).2 b o rfl j u hj
/-- All texts of a tree. -/
def BnX (t : VT) : Prop := ∀ d x, x ∈ flatD t d → BnT x.2
theorem BnX.of {t : VT} (h : BnT t) (hk : ∀ y ∈ t.ks, BnX y) : BnX t := fun d x hx => by
  rw [flatD_eq] at hx
  rcases List.mem_cons.1 hx with rfl | hx
  · exact h
  · have key : ∀ (l : List VT), (∀ y ∈ l, BnX y) → x ∈ flatDs l (d + 1) → BnT x.2 := fun l => by
      induction l with
      | nil => intro _ q; simp [flatDs] at q
      | cons y r ih =>
        intro hl q
        rw [flatDs] at q
        rcases List.mem_append.1 q with q | q
        · exact hl y (by simp) (d + 1) x q
        · exact ih (fun z hz => hl z (by simp [hz])) q
    exact key t.ks hk hx
/-- A node of which the datum is so great at most. -/
def OpenN (W : World) (held : Bool) (enc : TypeId × Value → H) (N : Nat) : Prop := ∀ (fuel : Nat) (c0 c1 c2 c3 c4 c5 : Value) (x : DataW H × List MemPlace), SizeOf.sizeOf x.1 ≤ N → DataW.trod enc Try.prog W 0 (fun _ => true) held fuel 42 [c0, c1, c2, c3, c4, c5] = some x → (∀ n ∈ x.1.weights Try.prog 42, n ≤ reachBytes) → ∃ (t : VT) (av kv : Value), [c0, c1, c2, c3, c4, c5] = ndC t.k t.tg t.tx av kv ∧ FdIs (fun _ => True) W av kv t.at_ t.ks ∧ BnX t ∧ t.sz ≤ Rows.uptoBulk x.1
theorem bulk_kids (D : Nat → DataW H) (c : Nat → VT) : ∀ (l : List Nat), (∀ i ∈ l, (c i).sz ≤ Rows.uptoBulk (D i)) → szs (l.map c) ≤ Rows.uptoBulkAll (l.map D)
  | [], _ => Nat.le_refl _
  | i :: r, h => by
    have h1 := h i (by simp)
    have h2 := bulk_kids D c r (fun j hj => h j (by simp [hj]))
    rw [List.map_cons, List.map_cons, szs, Rows.uptoBulkAll]
    omega
theorem open_kids {N n : Nat} (ih : OpenN W held enc N) {v : Value} {x : DataW H × List MemPlace} (hs : SizeOf.sizeOf x.1 ≤ N + 1) (hf : DataW.trod enc Try.prog W 0 (fun _ => true) held n 40 [v] = some x) (hw : ∀ n ∈ x.1.weights Try.prog 40, n ≤ reachBytes) : ∃ L : List VT, KsIs (fun _ => True) W v L ∧ (∀ y ∈ L, BnX y) ∧ szs L ≤ Rows.uptoBulk x.1 := by
  rcases open_slice Try.underlying40 hf with ⟨hc, hx⟩ | ⟨a, len, cap, m, k, D, Pq, hc, _, hl, hm, hmm, hx, hel⟩
  · simp at hc
    subst hc
    exact ⟨[], ⟨none, 0, rfl, Nat.le_refl _, by simp, .inl rfl⟩, fun r h => absurd h (by simp), Nat.zero_le _⟩
  · simp at hc
    subst hc
    have hml : len ≤ m := by rw [hmm]; simp only [if_true]; exact hl
    have hwe : ∀ i, i < len → ∀ q ∈ (D i).weights Try.prog 42, q ≤ reachBytes := fun i hi q hq => by
      refine hw q ?_
      rw [hx]
      show q ∈ (DataW.slice _ _).weights Try.prog _
      rw [DataW.weights, Try.underlying40]
      simp only [List.mem_cons, List.mem_append]
      exact .inr (.inl (weights_all (List.mem_map.2 ⟨i, List.mem_range.2 hi, rfl⟩) hq))
    have hsz : ∀ i, i < len → SizeOf.sizeOf (D i) ≤ N := fun i hi => by
      have h1 := List.sizeOf_lt_of_mem (List.mem_map.2 ⟨i, List.mem_range.2 hi, rfl⟩ : D i ∈ (List.range len).map D)
      rw [hx] at hs
      have h2 : SizeOf.sizeOf ((List.range len).map D) < SizeOf.sizeOf (DataW.slice ((List.range len).map D) ((List.range (m - len)).map fun j => D (len + j))) := by simp; omega
      have h3 : SizeOf.sizeOf (DataW.slice ((List.range len).map D) ((List.range (m - len)).map fun j => D (len + j))) ≤ N + 1 := hs
      omega
    have hch : ∀ i, i < len → ∃ c : VT, (BnX c ∧ c.sz ≤ Rows.uptoBulk (D i)) ∧ ∀ b o, a = ⟨b, o, none⟩ → VAt (fun _ => True) W c b (o + i * 6) := fun i hi => by
      obtain ⟨cs', h1, h2⟩ := hel i (by omega)
      rw [cellsNodeV] at h1
      obtain ⟨hb1, hb2, hb3⟩ := World.cells?_some h1
      obtain ⟨c0, c1, c2, c3, c4, c5, rfl⟩ := list6 hb2
      obtain ⟨t, av, kv, ho, hfd, hbn⟩ := ih k c0 c1 c2 c3 c4 c5 _ (hsz i hi) h2 (hwe i hi)
      refine ⟨t, hbn, fun b o ea => VAt_iff.2 ⟨av, kv, fun j u hj => ?_, hfd⟩⟩
      subst ea
      have hj7 : j < 6 := (List.getElem?_eq_some_iff.1 hj).1
      have h5 := hb3 j hj7
      rw [Addr.add_lit, Addr.add_lit] at h5
      rw [h5, ho]
      exact hj
    obtain ⟨c, hcc⟩ : ∃ c : Nat → VT, ∀ i, i < len → (BnX (c i) ∧ (c i).sz ≤ Rows.uptoBulk (D i)) ∧ ∀ b o, a = ⟨b, o, none⟩ → VAt (fun _ => True) W (c i) b (o + i * 6) := by
      refine ⟨fun i => if h : i < len then Classical.choose (hch i h) else .node (0, 0) noTx noTx [] [], fun i hi => ?_⟩
      simp only [dif_pos hi]
      exact Classical.choose_spec (hch i hi)
    have hw0 := hw ((len + (m - len)) * Try.prog.bytesOf 42) (by
      rw [hx]
      show _ ∈ (DataW.slice _ _).weights Try.prog _
      rw [DataW.weights, Try.underlying40]
      simp)
    have hb0 : Try.prog.bytesOf 42 = 96 := by kernel_rfl
    have h2 : reachBytes ≤ 140737488355328 := by decide
    rw [hb0] at hw0
    have hLL : ((List.range len).map c).length = len := by simp
    refine ⟨(List.range len).map c, ⟨some a, cap, by rw [hLL], by rw [hLL]; exact hl, by rw [hLL]; omega, ?_⟩, fun r hr => ?_, ?_⟩
    rotate_left
    · obtain ⟨i, hi, rfl⟩ := List.mem_map.1 hr
      exact (hcc i (List.mem_range.1 hi)).1.1
    · rw [hx]
      show szs _ ≤ Rows.uptoBulk (DataW.slice ((List.range len).map D) _)
      rw [Rows.uptoBulk]
      have h9 := bulk_kids D c (List.range len) (fun i hi => (hcc i (List.mem_range.1 hi)).1.2)
      omega
    by_cases h0 : len = 0
    · left; simp [h0]
    · right
      obtain ⟨b, o, spot⟩ := a
      obtain ⟨cs', h1, _⟩ := hel 0 (by omega)
      rw [cellsNodeV] at h1
      obtain ⟨hb1, hb2, hb3⟩ := World.cells?_some h1
      have g0 := hb3 0 (by omega)
      rw [List.getElem?_eq_getElem (by omega)] at g0
      have hspot : spot = none := by simpa [Addr.add] using World.cell?_spot g0
      subst hspot
      have g1 := ((hcc 0 (by omega)).2 b o rfl).lt
      refine ⟨b, o, rfl, trivial, g1, (VRow_iff _ _).2 fun i hi => ?_⟩
      rw [hLL] at hi
      rw [List.getElem_map, List.getElem_range]
      exact (hcc i hi).2 b o rfl

set_option maxHeartbeats 4000000 in
theorem open_node : ∀ (N : Nat), OpenN W held enc N
  | 0 => fun fuel c0 c1 c2 c3 c4 c5 x hs hf hw => by
    obtain ⟨xs, n, _, hx, _, hlen, hfs⟩ := DataW.trod_struct Try.underlying42 hf
    rw [hx] at hs
    simp at hs
  | N + 1 => fun fuel c0 c1 c2 c3 c4 c5 x hs hf hw => by
    obtain ⟨xs, n, _, hx, _, hlen, hfs⟩ := DataW.trod_struct Try.underlying42 hf
    match xs, hlen with
    | [x0, x1, x2, x3, x4], _ =>
      have g0 : DataW.trod enc Try.prog W 0 (fun _ => true) held n 24 [c0, c1] = some x0 := by have := hfs 0 _ rfl; simpa [cellsStampV, cellsStrV, cellsAtsV, cellsNdsV] using this
      have g1 : DataW.trod enc Try.prog W 0 (fun _ => true) held n 9 [c2] = some x1 := by have := hfs 1 _ rfl; simpa [cellsStampV, cellsStrV, cellsAtsV, cellsNdsV] using this
      have g2 : DataW.trod enc Try.prog W 0 (fun _ => true) held n 9 [c3] = some x2 := by have := hfs 2 _ rfl; simpa [cellsStampV, cellsStrV, cellsAtsV, cellsNdsV] using this
      have g3 : DataW.trod enc Try.prog W 0 (fun _ => true) held n 39 [c4] = some x3 := by have := hfs 3 _ rfl; simpa [cellsStampV, cellsStrV, cellsAtsV, cellsNdsV] using this
      have g4 : DataW.trod enc Try.prog W 0 (fun _ => true) held n 40 [c5] = some x4 := by have := hfs 4 _ rfl; simpa [cellsStampV, cellsStrV, cellsAtsV, cellsNdsV] using this
      obtain ⟨s1, rfl, rfl⟩ := open_stampG g0
      obtain ⟨tg, e, e7, _⟩ := DataW.trod_string Try.underlying9 g1
      simp at e; subst e
      obtain ⟨tx, e, e8, _⟩ := DataW.trod_string Try.underlying9 g2
      simp at e; subst e
      have ex : x.1 = DataW.agg [x0.1, .lit (.string tg.data.toList), .lit (.string tx.data.toList), x3.1, x4.1] := by rw [hx, e7, e8]; rfl
      have hs4 : SizeOf.sizeOf x4.1 ≤ N + 1 := by
        rw [ex] at hs
        simp at hs
        omega
      rw [ex] at hw
      have hall := sized_struct (sized_one hw) (j := 0) rfl rfl Try.underlying42
      obtain ⟨A, hA, hAl, hAb⟩ := open_attrs g3 (weights_field hw Try.underlying42 (j := 3) rfl rfl)
      obtain ⟨L, hL, hLb, hLs⟩ := open_kids (open_node N) hs4 g4 (weights_field hw Try.underlying42 (j := 4) rfl rfl)
      refine ⟨.node s1 tg tx A L, c4, c5, rfl, ⟨hA, hAl, hL⟩, BnX.of ⟨?_, fun y hy => ?_⟩ hLb, ?_⟩
      · have := text_size hall (j := 1) (b := tg) rfl rfl
        show tg.size ≤ _
        omega
      · have := hAb y hy
        omega
      · rw [ex]
        simp only [Rows.uptoBulk, Rows.uptoBulkAll]
        have h9 := (VT.node s1 tg tx A L).sz_eq
        have h8 : (VT.node s1 tg tx A L).ks = L := rfl
        rw [h8] at h9
        omega
theorem open_nodeV {r : Reach} {b0 : Nat} {v : Value} {d : DataW H} {p : List MemPlace} (hv : Value.okWide Try.prog W r b0 42 v) (h : DataW.Trod enc Try.prog W 0 (fun _ => true) held 42 v d p) (hw : ∀ n ∈ d.weights Try.prog 42, n ≤ reachBytes) :
    ∃ t : VT, VIs (fun _ => True) W v t ∧ BnX t ∧ t.sz ≤ Rows.uptoBulk d := by
  obtain ⟨cs, rfl, hsz⟩ := okWide_struct Try.underlying42 hv
  obtain ⟨c0, c1, c2, c3, c4, c5, rfl⟩ := array6 (hsz.trans cellsNodeV)
  obtain ⟨fuel, hf⟩ := h
  have hf2 : DataW.trod enc Try.prog W 0 (fun _ => true) held fuel 42 [c0, c1, c2, c3, c4, c5] = some (d, p) := by simpa [Value.cells] using hf
  obtain ⟨t, av, kv, ha, hfd, hb⟩ := open_node (SizeOf.sizeOf d) fuel c0 c1 c2 c3 c4 c5 (d, p) (Nat.le_refl _) hf2 hw
  simp only [ndC, List.cons.injEq, and_true] at ha
  obtain ⟨rfl, rfl, rfl, rfl, rfl, rfl⟩ := ha
  exact ⟨t, ⟨_, _, rfl, hfd⟩, hb⟩
end

end Go.Proofs.Ytljmlbidbacdjab
