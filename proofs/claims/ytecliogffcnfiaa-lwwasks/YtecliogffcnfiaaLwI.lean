/- Iterators over rows; what is gathered; names sorted; a map's stamps gathered. -/
import Derived.Test.YtecliogffcnfiaaLwQ
import Derived.Test.YtecliogffcnfiaaLaysZ
import Derived.Test.YtecliogffcnfiaaLwF
import Derived.Laws.EntriesVeiled
import Derived.Maps.AppendAt
import Derived.OwnWalkIn
namespace Go.Proofs.Ytecliogffcnfiaa
open Go.RowKit Go.Shelf Go.Sort
set_option linter.unusedVariables false
set_option linter.unusedSimpArgs false

attribute [local go_sem] Oper.semAt_some

/-- A name, a stamp, an attribute, what a register has, as yield's argument. -/
def encN (x : ByteArray) : Array Value := #[.string x]
def encT (x : St) : Array Value := #[.agg #[.int .i64 x.1, .int .i64 x.2]]
def encA (x : ByteArray × ByteArray) : Array Value := #[.agg #[.string x.1, .string x.2]]
def encR (x : Rg) : Array Value := #[.agg #[.int .i64 x.nd.1, .int .i64 x.nd.2, .string x.nm, .int .i64 x.at_.1, .int .i64 x.at_.2, .string x.vl, .bool x.gn]]

set_option maxRecDepth 100000 in
set_option maxHeartbeats 8000000 in
theorem valsS_in (n : Nat) (hn : 2 ≤ n) (l B1 c : Nat) (S : Nat → Prop) (a : Option Addr) (D : List (ByteArray)) (J Jx : Nat → World → Prop) (W : World)
    (hS1 : S B1) (hSl : ∀ k, S k → k < W.heap.size) (hB1 : W.cell? ⟨B1, 0, none⟩ = some (.slice a D.length c)) (hR : LsE nmCells 1 S W (.slice a D.length c) D) (hl : D.length ≤ 16384)
    (hJ : AbidesFrom W.heap.size J)
    (hY : ∀ k (h : k < D.length) W1, J k W1 → YieldAt Fence.wide (n - 1) Try.prog l (encN D[k]) W1 fun e W' => (e = .returned (.bool true) ∧ J (k + 1) W' ∧ KeepsS S W1 W') ∨ (e = .returned (.bool false) ∧ Jx (k + 1) W')) (h0 : J 0 W) :
    CallsIn Fence.wide n Try.prog 34 #[.func (.yield l) #[] #[], .pointer (some ⟨B1, 0, none⟩)] W fun e W' => (∃ v, e = .returned v) ∧ (J D.length W' ∨ ∃ k, k ≤ D.length ∧ Jx k W') := by
  have HR : Hid (LsE nmCells 1 S W (.slice a D.length c) D) := hR
  have HSl : Hid (∀ k, S k → k < W.heap.size) := hSl
  have HJ : Hid (AbidesFrom W.heap.size J) := hJ
  clear hR hJ hSl
  refine callsIn_of_wp Try.func34 rfl trivial ?_ rfl
  simp only [Try.ntmps34, List.size_toArray, List.length_cons, List.length_nil, Nat.reduceAdd, Nat.reduceSub, Array.replicate_succ, Array.replicate_zero, List.push_toArray, List.append_toArray, List.nil_append, List.cons_append]
  gi_wp2
  gi_loopw [4, 7] (fun _ i wr => ∃ k : Nat, k ≤ D.length ∧ i = .int .i64 k ∧ Hid (JH W.heap.size J k wr) ∧ Hid (KeepsH S W wr))
    (fun _ i _ => D.length - (intOf i).toNat)
  case atStart => exact ⟨0, Nat.zero_le _, rfl, ⟨h0, HJ.out⟩, ⟨KeepsS.refl _ _, HSl.out⟩⟩
  case round =>
    obtain ⟨k, hk, rfl, HJr, HKr⟩ := hrel
    by_cases hlt : k < D.length
    · obtain ⟨a', cap', e', hc', hl', hrow⟩ := HR.out.keep HKr.out.1
      injection e' with e1 _ e3
      subst e1 e3
      obtain ⟨b, o, rfl, hSb, hbl, hcs⟩ := hrow.resolve_left (by intro e; subst e; simp at hlt)
      have y0 : wr.cell? ⟨b, o + k, none⟩ = some (.string D[k]) := (by have h9 := hcs k hlt 0 _ rfl; rw [Nat.mul_one] at h9; exact h9)
      have kk1 : (k : Int) < (D.length : Int) := by omega
      have kk0 : (0 : Int) ≤ (k : Int) := by omega
      have hYk := hY k hlt
      have HJl : Hid (k + 1 ≤ D.length) := hlt
      clear hcs hrow hc' hl'
      generalize D[k] = x at *
      have HKx : Hid (KeepsH S W wr) := HKr.out
      obtain ⟨fn, tmps, assign, body, hy, hRd⟩ := hYk _ HJr.out.1
      simp only [encN] at hy
      have hy2 := hy
      have eW4 : True := trivial
      clear hYk hy
      gi_wp2
      refine ⟨fun _ => by omega, hRd.mono ?_⟩
      rintro e W3 (⟨rfl, hJ3, hk3⟩ | ⟨rfl, hJx3⟩)
      · have HJ3 : Hid (JH W.heap.size J (k + 1) W3) := ⟨hJ3, HJ.out⟩
        have HK3 : Hid (KeepsH S W W3) := ⟨HKx.out.1.trans hk3, HSl.out⟩
        clear hJ3 hk3 eW4 hy2
        gi_wp2
        go_roundw
        case rel => exact ⟨k + 1, by omega, by go_num, HJ3, HK3⟩
        case measure => simp [intOf]; omega
      · have HJ3 : Hid (Jx (k + 1) W3) := hJx3
        clear hJx3 eW4 hy2
        gi_wp2
        refine bodyPost_ret (results_none rfl _ _ _) rfl ?_
        exact ⟨⟨_, rfl⟩, .inr ⟨_, HJl.out, HJ3.out⟩⟩
    · have HE : Hid (J D.length wr) := by
        have := HJr.out.1
        obtain rfl : k = D.length := by omega
        exact this
      gi_wp2
      go_end0
      exact ⟨⟨_, rfl⟩, .inl HE.out⟩

theorem valsS_seq (n : Nat) (hn : 2 ≤ n) (B1 c : Nat) (S : Nat → Prop) (a : Option Addr) (D : List (ByteArray)) (w : World) (hS1 : S B1) (hSl : ∀ k, S k → k < w.heap.size) (hB1 : w.cell? ⟨B1, 0, none⟩ = some (.slice a D.length c)) (hR : LsE nmCells 1 S w (.slice a D.length c) D) (hl : D.length ≤ 16384) :
    SeqOf n Try.prog 34 #[.pointer (some ⟨B1, 0, none⟩)] encN (KeepsS S) D w := fun l J Jx W hW hJ _ hY h0 =>
  have hk : KeepsS S w W := KeepsS.of_below hW hSl
  valsS_in n hn l B1 c S a D J Jx W hS1 (fun k h => Nat.lt_of_lt_of_le (hSl k h) hW.size) ((hk.cell (p := ⟨B1, 0, none⟩) hS1).trans hB1) (hR.keep hk) hl hJ hY h0

set_option maxRecDepth 100000 in
set_option maxHeartbeats 8000000 in
theorem valsA_in (n : Nat) (hn : 2 ≤ n) (l B1 c : Nat) (S : Nat → Prop) (a : Option Addr) (D : List (ByteArray × ByteArray)) (J Jx : Nat → World → Prop) (W : World)
    (hS1 : S B1) (hSl : ∀ k, S k → k < W.heap.size) (hB1 : W.cell? ⟨B1, 0, none⟩ = some (.slice a D.length c)) (hR : LsE atCells 2 S W (.slice a D.length c) D) (hl : D.length ≤ 16384)
    (hJ : AbidesFrom W.heap.size J)
    (hY : ∀ k (h : k < D.length) W1, J k W1 → YieldAt Fence.wide (n - 1) Try.prog l (encA D[k]) W1 fun e W' => (e = .returned (.bool true) ∧ J (k + 1) W' ∧ KeepsS S W1 W') ∨ (e = .returned (.bool false) ∧ Jx (k + 1) W')) (h0 : J 0 W) :
    CallsIn Fence.wide n Try.prog 24 #[.func (.yield l) #[] #[], .pointer (some ⟨B1, 0, none⟩)] W fun e W' => (∃ v, e = .returned v) ∧ (J D.length W' ∨ ∃ k, k ≤ D.length ∧ Jx k W') := by
  have HR : Hid (LsE atCells 2 S W (.slice a D.length c) D) := hR
  have HSl : Hid (∀ k, S k → k < W.heap.size) := hSl
  have HJ : Hid (AbidesFrom W.heap.size J) := hJ
  clear hR hJ hSl
  refine callsIn_of_wp Try.func24 rfl trivial ?_ rfl
  simp only [Try.ntmps24, List.size_toArray, List.length_cons, List.length_nil, Nat.reduceAdd, Nat.reduceSub, Array.replicate_succ, Array.replicate_zero, List.push_toArray, List.append_toArray, List.nil_append, List.cons_append]
  gi_wp2
  gi_loopw [4, 7] (fun _ i wr => ∃ k : Nat, k ≤ D.length ∧ i = .int .i64 k ∧ Hid (JH W.heap.size J k wr) ∧ Hid (KeepsH S W wr))
    (fun _ i _ => D.length - (intOf i).toNat)
  case atStart => exact ⟨0, Nat.zero_le _, rfl, ⟨h0, HJ.out⟩, ⟨KeepsS.refl _ _, HSl.out⟩⟩
  case round =>
    obtain ⟨k, hk, rfl, HJr, HKr⟩ := hrel
    by_cases hlt : k < D.length
    · obtain ⟨a', cap', e', hc', hl', hrow⟩ := HR.out.keep HKr.out.1
      injection e' with e1 _ e3
      subst e1 e3
      obtain ⟨b, o, rfl, hSb, hbl, hcs⟩ := hrow.resolve_left (by intro e; subst e; simp at hlt)
      have y0 : wr.cell? ⟨b, o + k * 2, none⟩ = some (.string D[k].1) := (by have h9 := hcs k hlt 0 _ rfl; exact h9)
      have y1 : wr.cell? ⟨b, o + k * 2 + 1, none⟩ = some (.string D[k].2) := (by have h9 := hcs k hlt 1 _ rfl; exact h9)
      have kk1 : (k : Int) < (D.length : Int) := by omega
      have kk0 : (0 : Int) ≤ (k : Int) := by omega
      have hYk := hY k hlt
      have HJl : Hid (k + 1 ≤ D.length) := hlt
      clear hcs hrow hc' hl'
      generalize D[k] = x at *
      obtain ⟨W4, eW4⟩ : ∃ X, X = wr.alloc (.cells #[.string x.1, .string x.2] 42) := ⟨_, rfl⟩
      have hb4 : Below wr.heap.size wr W4 := by rw [eW4]; exact (Below.refl _ _).alloc (Nat.le_refl _) _
      have HKx : Hid (KeepsH S W W4) := HKr.out.below hb4
      have HJx : Hid (JH W.heap.size J k W4) := HJr.out.below hb4
      obtain ⟨fn, tmps, assign, body, hy, hRd⟩ := hYk _ HJx.out.1
      simp only [encA] at hy
      have hy2 := hy
      rw [eW4] at hy2
      clear hb4 hYk hy
      gi_wp2
      rw [← eW4]
      refine ⟨fun _ => by omega, hRd.mono ?_⟩
      rintro e W3 (⟨rfl, hJ3, hk3⟩ | ⟨rfl, hJx3⟩)
      · have HJ3 : Hid (JH W.heap.size J (k + 1) W3) := ⟨hJ3, HJ.out⟩
        have HK3 : Hid (KeepsH S W W3) := ⟨HKx.out.1.trans hk3, HSl.out⟩
        clear hJ3 hk3 eW4 hy2
        gi_wp2
        go_roundw
        case rel => exact ⟨k + 1, by omega, by go_num, HJ3, HK3⟩
        case measure => simp [intOf]; omega
      · have HJ3 : Hid (Jx (k + 1) W3) := hJx3
        clear hJx3 eW4 hy2
        gi_wp2
        refine bodyPost_ret (results_none rfl _ _ _) rfl ?_
        exact ⟨⟨_, rfl⟩, .inr ⟨_, HJl.out, HJ3.out⟩⟩
    · have HE : Hid (J D.length wr) := by
        have := HJr.out.1
        obtain rfl : k = D.length := by omega
        exact this
      gi_wp2
      go_end0
      exact ⟨⟨_, rfl⟩, .inl HE.out⟩

theorem valsA_seq (n : Nat) (hn : 2 ≤ n) (B1 c : Nat) (S : Nat → Prop) (a : Option Addr) (D : List (ByteArray × ByteArray)) (w : World) (hS1 : S B1) (hSl : ∀ k, S k → k < w.heap.size) (hB1 : w.cell? ⟨B1, 0, none⟩ = some (.slice a D.length c)) (hR : LsE atCells 2 S w (.slice a D.length c) D) (hl : D.length ≤ 16384) :
    SeqOf n Try.prog 24 #[.pointer (some ⟨B1, 0, none⟩)] encA (KeepsS S) D w := fun l J Jx W hW hJ _ hY h0 =>
  have hk : KeepsS S w W := KeepsS.of_below hW hSl
  valsA_in n hn l B1 c S a D J Jx W hS1 (fun k h => Nat.lt_of_lt_of_le (hSl k h) hW.size) ((hk.cell (p := ⟨B1, 0, none⟩) hS1).trans hB1) (hR.keep hk) hl hJ hY h0

/-- What is gathered: the things E lie in an own row, whose value lies in a box; since W2 nothing of S has changed, since w nothing that lay there. -/
structure ColB {α : Type} (enc : α → List Value) (n : Nat) (T TS : TypeId) (w W2 : World) (b0 : Nat) (S : Nat → Prop) (ov : Value) (E : List α) (U : World) : Prop where
  box : BxC b0 [ov] TS U
  own : OwnE enc n T w.heap.size U ov E
  bel : Below w.heap.size w U
  kp : KeepsS S W2 U
  kl : ∀ k, S k → k < W2.heap.size
  b1 : w.heap.size ≤ b0
  b2 : b0 < W2.heap.size
  b3 : ¬ S b0
  vs : ∀ k, ov.ownBlock = some k → ¬ S k
section
variable {α : Type} {enc : α → List Value} {n : Nat} {T TS : TypeId} {w W2 : World} {b0 : Nat} {S : Nat → Prop} {ov : Value} {E : List α} {U U' : World}
theorem ColB.below (h : ColB enc n T TS w W2 b0 S ov E U) (hb : Below U.heap.size U U') : ColB enc n T TS w W2 b0 S ov E U' :=
  ⟨h.box.below hb, h.own.below hb, h.bel.trans (hb.mono h.bel.size), h.kp.trans (KeepsS.of_below hb fun k hk => Nat.lt_of_lt_of_le (h.kl k hk) h.kp.1), h.kl, h.b1, h.b2, h.b3, h.vs⟩
theorem ColB.size (h : ColB enc n T TS w W2 b0 S ov E U) : W2.heap.size ≤ U.heap.size := h.kp.1
theorem ColB.low (h : ColB enc n T TS w W2 b0 S ov E U) : w.heap.size ≤ W2.heap.size := by have := h.b1; have := h.b2; omega
theorem ColB.grown (h : ColB enc n T TS w W2 b0 S ov E U) {row : Option Nat} (hg : U.grownBy U' row) (hr : ∀ r, row = some r → W2.heap.size ≤ r ∧ ∃ o : Obj, U.heap[r]? = some o ∧ o.isCells = false) : ColB enc n T TS w W2 b0 S ov E U' := by
  have hr2 : ∀ r, row = some r → ∃ o : Obj, U.heap[r]? = some o ∧ o.isCells = false := fun r e => (hr r e).2
  have hlo := h.low
  exact ⟨row_own h.box hg hr2, ownsRow_own h.own hg hr2, h.bel.grown hg h.bel.size (fun j e => Nat.le_trans hlo (hr j e).1), h.kp.trans ⟨hg.size, fun k hk => hg.block k (Nat.lt_of_lt_of_le (h.kl k hk) h.size) (fun e => by have := (hr k e.symm).1; have := h.kl k hk; omega)⟩, h.kl, h.b1, h.b2, h.b3, h.vs⟩
/-- The blocks of one kind are as they were. -/
def KindT (X : TypeId) (A B : World) : Prop := ∀ (k : Nat) (cs : Array Value) fr, A.heap[k]? = some (Obj.cells cs X fr) → B.heap[k]? = some (Obj.cells cs X fr)
theorem KindT.trans {X : TypeId} {A B C : World} (h : KindT X A B) (k : KindT X B C) : KindT X A C := fun j cs fr e => k j cs fr (h j cs fr e)
theorem KindT.below {X : TypeId} {A B : World} (h : Below A.heap.size A B) : KindT X A B := fun j cs fr e => (h.block j (Array.getElem?_eq_some_iff.1 e).1).trans e
/-- Behind an append. -/
theorem ColB.push (h : ColB enc n T TS w W2 b0 S ov E U) (hT : TS ≠ T) {x : α} {v : Value} (hown : U'.ownsRow w.heap.size T n v (E.length + 1) (flatE enc E ++ enc x)) (hg : U.grownBy U' ov.ownBlock) (ha : v.ownBlock = ov.ownBlock ∨ v.ownBlock = some U.heap.size) :
    ColB enc n T TS w W2 b0 S v (E ++ [x]) (U'.setCell ⟨b0, 0, none⟩ v) ∧ BxC b0 [ov] TS U' ∧ (∀ B, KeepsFrom B U (U'.setCell ⟨b0, 0, none⟩ v)) ∧ KeepsS S U (U'.setCell ⟨b0, 0, none⟩ v) ∧ (∀ X, X ≠ T → X ≠ TS → KindT X U (U'.setCell ⟨b0, 0, none⟩ v)) ∧ KpW S U (U'.setCell ⟨b0, 0, none⟩ v) := by
  have hne : ∀ {V : World} {u : Value} {L : List Value} {m : Nat}, V.ownsRow w.heap.size T n u m L → ∀ cs, V.heap[b0]? = some (.cells cs TS) → u.ownBlock ≠ some b0 := fun h1 cs h2 e => by
    obtain ⟨cur, hc⟩ := ownsRow_type h1 b0 e
    rw [hc] at h2
    injection h2 with h3
    injection h3 with _ h4
    exact hT h4.symm
  have hbx : BxC b0 [ov] TS U' := h.box.keep (hg.block b0 h.box.lt (fun e => hne h.own _ h.box e.symm))
  have far : ∀ k, k ≠ b0 → (U'.setCell ⟨b0, 0, none⟩ v).heap[k]? = U'.heap[k]? := fun k hk => RowKit.Below.heap_setCell _ _ _ _ hk
  have hsz : (U'.setCell ⟨b0, 0, none⟩ v).heap.size = U'.heap.size := by simp [World.setCell]
  have hks : KeepsS S U (U'.setCell ⟨b0, 0, none⟩ v) := ⟨by rw [hsz]; exact hg.size, fun k hk => (far k (fun e => h.b3 (e ▸ hk))).trans (hg.block k (Nat.lt_of_lt_of_le (h.kl k hk) h.size) (fun e => h.vs k e.symm hk))⟩
  have hko : ∀ B, KeepsFrom B U (U'.setCell ⟨b0, 0, none⟩ v) := fun B => (keepsFrom_row h.own hg).trans (keepsFrom_set _ _ _)
  refine ⟨⟨?_, ?_, ?_, h.kp.trans hks, h.kl, h.b1, h.b2, h.b3, fun k e hk => ?_⟩, hbx, hko, hks, fun X h1 h2 k cs fr e => ?_, hks, fun k o hk hw => (hko 0).same k o (Nat.zero_le _) hk (walk_cells hw)⟩
  · have := heap_setCell_same U' b0 0 _ _ v hbx
    simpa [BxC] using this
  · have h1 : OwnE enc n T w.heap.size U' v (E ++ [x]) := OwnE.snoc rfl hown
    exact ownsRow_keep h1 fun k e => far k (fun e2 => hne hown _ hbx (e2 ▸ e))
  · exact (h.bel.grown hg h.bel.size (fun j e => (h.own.lt j e).1)).setCell (p := ⟨b0, 0, none⟩) h.b1 _
  · rcases ha with ha | ha
    · exact h.vs k (ha ▸ e) hk
    · rw [e] at ha; cases ha; have := h.kl _ hk; have := h.size; omega
  · have hkb : k ≠ b0 := fun e2 => by
      subst e2
      have h3 : U.heap[k]? = some (.cells [ov].toArray TS) := h.box
      rw [h3] at e
      injection e with h4
      injection h4 with _ h5
      exact h2 h5.symm
    have hkr : some k ≠ ov.ownBlock := fun e2 => by
      obtain ⟨cur, hc⟩ := ownsRow_type h.own k e2.symm
      rw [hc] at e
      injection e with h4
      injection h4 with _ h5
      exact h1 h5.symm
    exact ((far k hkb).trans (hg.block k (Array.getElem?_eq_some_iff.1 e).1 hkr)).trans e
end
theorem wpListIn_append_own_at {F : Fence} {n : Nat} {P : Program} (w : World) {ops : Array Oper} {rest : List Oper} {o : Oper} {a : Act} {Q : Exit → Act → World → Prop}
    (hg : o.guard = none) (s x : Operand) (t : TypeId) (hop : o.op = Op.call { callee := Callee.builtin Builtin.append, args := #[s, x], argTypes := #[t, t] })
    (base : Nat) (e : TypeId) (i : TypeInfo) (z : Value) (size bytes : Nat) (h1 : P.underlying t = some (.slice e)) (h2 : P.info? e = some i) (h3 : i.zero = some z) (h4 : i.size = size) (h5 : i.bytes = bytes) (h6 : z.cells.size = size) (h7 : 0 < size)
    (v : Value) (k : Nat) (xs : List Value) (hs : a.eval s = v) (hown : w.ownsRow base e size v k xs) (ad : Addr) (m c : Nat) (news : List Value) (hx : a.eval x = .slice (some ad) m c) (hn : news.length = m * size)
    (hc : ∀ j u, news[j]? = some u → w.cell? (ad.add j) = some u) (h1c : ∀ u ∈ news, u.oneCell' = true) (b1 : k + m ≤ maxLen) (b2 : (k + m) * bytes ≤ 140737488355328) (b3 : base ≤ w.heap.size)
    (hK : ∀ v' w', w'.ownsRow base e size v' (k + m) (xs ++ news) → w.grownBy w' v.ownBlock → (v'.ownBlock = v.ownBlock ∨ v'.ownBlock = some w.heap.size) → wpListIn F n P ops Q rest (a.put o.dst v') w') :
    wpListIn F n P ops Q (o :: rest) a w := by
  refine wpListIn_plain hg fun K hK' => ?_
  obtain ⟨v', w', hrun, r1, r2, r3, r4⟩ := run_append_own_at (P := P) w base t o.type e i z size bytes h1 h2 h3 h4 h5 h6 h7 v k xs hown ad m c news hn hc h1c b1 b2 b3
  unfold Oper.wpIn
  refine ⟨?_, ?_⟩
  · simp [Oper.about, hop, resolve, Target.leads, Sem.run_pure]
  · rw [Oper.semAt_plain F _ _ (by rw [hop]; intro c hc'; cases hc')]
    simp [execOp, hop, resolve, invoke, builtin, hs, hx, hrun, Result.andThen]
    exact hK' _ _ (hK v' w' r1 r2 r4)
theorem hide7 {p : Prop} (h : p) : Hid p := h
theorem stCells_one (x : St) : ∀ u ∈ stCells x, u.oneCell' = true := by
  intro u hu
  simp only [stCells, List.mem_cons, List.not_mem_nil, or_false] at hu
  rcases hu with rfl | rfl <;> rfl
theorem infoStp : (Try.prog.info? 24).map (fun i => (i.zero, i.size, i.bytes)) = some (some (.agg #[.int .i64 0, .int .i64 0]), 2, 16) := by kernel_rfl

end Go.Proofs.Ytecliogffcnfiaa
