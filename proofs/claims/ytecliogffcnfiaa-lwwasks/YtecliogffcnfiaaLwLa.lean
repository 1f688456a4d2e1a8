/- What a node has, gone over; an outer round. -/
import Derived.Test.YtecliogffcnfiaaLwK
import Derived.Test.YtecliogffcnfiaaLaysZ
import Derived.Test.YtecliogffcnfiaaLwF
import Derived.Laws.EntriesVeiled
import Derived.Maps.AppendAt
import Derived.OwnWalkIn
import Derived.RangeFuncBox
import Derived.Sort.OwnSorted
namespace Go.Proofs.Ytecliogffcnfiaa
open Go.RowKit Go.Shelf Go.Sort
set_option linter.unusedVariables false
set_option linter.unusedSimpArgs false

attribute [local go_sem] Oper.semAt_some

theorem nodup_le {α : Type} [DecidableEq α] : ∀ {l m : List α}, l.Nodup → (∀ x ∈ l, x ∈ m) → l.length ≤ m.length
  | [], _, _, _ => Nat.zero_le _
  | x :: l, m, hn, hm => by
    have h1 := List.nodup_cons.1 hn
    have h2 : l.length ≤ (m.erase x).length := nodup_le h1.2 fun y hy => (List.mem_erase_of_ne (fun e : y = x => h1.1 (by rw [← e]; exact hy))).2 (hm y (List.mem_cons_of_mem _ hy))
    have h3 := List.length_erase_of_mem (hm x (List.mem_cons_self ..))
    have h4 : 0 < m.length := List.length_pos_of_mem (hm x (List.mem_cons_self ..))
    simp only [List.length_cons]
    omega
/-- What a round of of's must keep. -/
def KpO (S : Nat → Prop) (A B : World) : Prop := KeepsS S A B ∧ KindT 9 A B
theorem KpO.trans {S : Nat → Prop} {A B C : World} (h : KpO S A B) (k : KpO S B C) : KpO S A C := ⟨h.1.trans k.1, h.2.trans k.2⟩
theorem KpO.below {S : Nat → Prop} {A B : World} (h : Below A.heap.size A B) (hS : ∀ k, S k → k < A.heap.size) : KpO S A B := ⟨KeepsS.of_below h hS, KindT.below h⟩
theorem KpO.loop {S : Nat → Prop} {w : World} (hn : ∀ k, S k → k < w.heap.size) (W : World) (l : Nat) (o o' : Obj) (hl : w.heap.size ≤ l) (h : W.heap[l]? = some o) (h1 : o.isCells = false) (h2 : o.isWalk = false) : KpO S W (W.putObj l o') :=
  ⟨keepsSK_b hn W l o o' hl h h1 h2, fun k cs fr e => by
    have hk : k ≠ l := fun e2 => by
      subst e2
      rw [h] at e
      cases e
      simp [Obj.isCells] at h1
    exact (World.putObj_heap_other hk).trans e⟩

theorem of_nil (n : Nat) (l Bx Bs : Nat) (J Jx : Nat → World → Prop) (W : World) (hx : W.cell? ⟨Bx, 0, none⟩ = some (.pointer none)) (h0 : J 0 W) :
    CallsIn Fence.wide n Try.prog 21 #[.func (.yield l) #[] #[], .pointer (some ⟨Bx, 0, none⟩), .pointer (some ⟨Bs, 0, none⟩)] W fun e W' => (∃ v, e = .returned v) ∧ (J 0 W' ∨ ∃ k, k ≤ 0 ∧ Jx k W') := by
  have H0 : Hid (J 0 W) := h0
  clear h0
  refine callsIn_of_wp Try.func21 rfl trivial ?_ rfl
  simp only [Try.ntmps21, List.size_toArray, List.length_cons, List.length_nil, Nat.reduceAdd, Nat.reduceSub, Array.replicate_succ, Array.replicate_zero, List.push_toArray, List.append_toArray, List.nil_append, List.cons_append]
  gi_wp2
  refine bodyPost_ret (results_none rfl _ _ _) rfl ?_
  exact ⟨⟨_, rfl⟩, .inl H0.out⟩

theorem of_seq (n : Nat) (hn : 2 ≤ n) (Bx Bs : Nat) (F S : Nat → Prop) (s : St) (R : List Rg) (v : Value) (w : World) (hx : BxC Bx [v] 27 w) (hs : BxC Bs (stCells s) 24 w) (hR : RegV F w v R)
    (hSx : S Bx) (hSs : S Bs) (hSF : ∀ k, F k → S k) (hSl : ∀ k, S k → k < w.heap.size) : SeqOf n Try.prog 21 #[.pointer (some ⟨Bx, 0, none⟩), .pointer (some ⟨Bs, 0, none⟩)] encR (KpO S) (ofR R s) w := fun l J Jx W hW hJ _ hY h0 => by
  rcases hR with ⟨rb, rfl, B, mh, mn, E, h, hN, hl⟩ | ⟨rfl, rfl⟩
  · exact of_in n hn l Bx Bs rb F S s R B mh mn E J Jx W (OfS.below ⟨hx, hs, h⟩ hW) hN hl hSx hSs hSF (fun k hk => Nat.lt_of_lt_of_le (hSl k hk) hW.size) hJ hY h0
  · exact of_nil n l Bx Bs J Jx W ((hx.below hW).cell 0 _ rfl) h0

theorem of_any (v : Value) (s : St) (w : World) (hv : ∃ p, v = .pointer p) :
    Calls Try.prog 14 #[v, .agg #[.int .i64 s.1, .int .i64 s.2]] w fun e w' => e = .returned (.func (.func 21) #[] #[.pointer (some ⟨w.heap.size, 0, none⟩), .pointer (some ⟨w.heap.size + 1, 0, none⟩)]) ∧ w' = (w.alloc (.cells [v].toArray 27)).alloc (.cells (stCells s).toArray 24) := by
  obtain ⟨p, rfl⟩ := hv
  go_enter Try.func14, Try.ntmps14
  go_wp2
  go_ret
  exact ⟨by simp, rfl⟩

theorem K.len_h {w : World} {b : Nat} {R : List Rg} (h : HMap w b R) : (Builtin.len_ #[48] 3 #[.map (some b)]).run Try.prog w = .ok (.int .i64 (R.length : Int)) w := by
  obtain ⟨D, ⟨es, cl, hb, he⟩, hp⟩ := h
  have hz : es.size = R.length := by
    have h1 := congrArg List.length he.ent
    simp only [List.length_map, Array.length_toList] at h1
    rw [h1, hp.length_eq]
  simp [Builtin.len_, run_underlying Try.underlying48, run_underlying Try.underlying3, MapKept.run_getObj_map hb, hz, Result.andThen]
  rfl

section
variable {α : Type} {enc : α → List Value} {n : Nat} {T TS : TypeId} {w W2 : World} {b0 : Nat} {S S' : Nat → Prop} {ov ov' : Value} {E E' : List α} {U U' : World}
theorem ColB.inn (h : ColB enc n T TS w W2 b0 S ov E U) (hl : ∀ k, S' k → k < U.heap.size) (hb : ¬ S' b0) (hv : ∀ k, ov.ownBlock = some k → ¬ S' k) : ColB enc n T TS w U b0 S' ov E U :=
  ⟨h.box, h.own, h.bel, KeepsS.refl _ _, hl, h.b1, Nat.lt_of_lt_of_le h.b2 h.size, hb, hv⟩
theorem ColB.outw (h : ColB enc n T TS w W2 b0 S ov E U) (h2 : ColB enc n T TS w U b0 S' ov' E' U') (hs : ∀ k, S k → S' k) : ColB enc n T TS w W2 b0 S ov' E' U' :=
  ⟨h2.box, h2.own, h2.bel, h.kp.trans ⟨h2.kp.1, fun k hk => h2.kp.2 k (hs k hk)⟩, h.kl, h.b1, h.b2, h.b3, fun k e hk => h2.vs k e (hs k hk)⟩
end
theorem KeepsFrom.grown {B : Nat} {W A C : World} (h : KeepsFrom B W A) {row : Option Nat} (hg : A.grownBy C row) (hr : ∀ r, row = some r → W.heap.size ≤ r) : KeepsFrom B W C :=
  ⟨Nat.le_trans h.size hg.size, fun k o hB hk ho => (hg.block k (Nat.lt_of_lt_of_le (Array.getElem?_eq_some_iff.1 hk).1 h.size) (fun e => by have := hr k e.symm; have := (Array.getElem?_eq_some_iff.1 hk).1; omega)).trans (h.same k o hB hk ho)⟩
theorem RegV.keep {F : Nat → Prop} {w w' : World} {v : Value} {R : List Rg} (h : RegV F w v R) (hk : KeepsS F w w') : RegV F w' v R := h.imp (fun ⟨rb, e, h⟩ => ⟨rb, e, h.keep hk⟩) id

end Go.Proofs.Ytecliogffcnfiaa
