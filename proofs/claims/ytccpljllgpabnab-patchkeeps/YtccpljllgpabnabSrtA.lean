/- What the document's Less and Compare do, of any two stamps; the walk of IdentCompares. -/
import Derived.Test.YtccpljllgpabnabTk
import Derived.Test.YtccpljllgpabnabWalksD
import Derived.Test.YtccpljllgpabnabWalksK
import Derived.Test.YtccpljllgpabnabRows
import Derived.WalkKit
import Derived.WalkSpells
import Derived.Deep.QuietTactic
import Derived.BigQuiet
import Derived.RowKit3
import Derived.WalkSmall
import Derived.Maps.AppendAt
import Derived.OwnWalk
import Derived.Lib.ItoaMem
import Derived.WalkLawsBesides
namespace Go.Proofs.Ytccpljllgpabnab.S
open Go.RowKit
set_option linter.unusedVariables false

end Go.Proofs.Ytccpljllgpabnab.S

namespace Go.Proofs.Ytccpljllgpabnab.S
open Go.RowKit
set_option linter.unusedVariables false

theorem ret_b {a b : Bool} (h : a = b) : Ending.returned (.bool a) = .returned (.bool b) := by rw [h]

/-- From block b, offset o on lie these stamps. -/
def RowAt (w : World) (b o : Nat) (d : List (Int × Int)) : Prop :=
  ∀ i (h : i < d.length), w.cell? ⟨b, o + i * 2, none⟩ = some (.int .i64 d[i].1) ∧ w.cell? ⟨b, o + i * 2 + 1, none⟩ = some (.int .i64 d[i].2)
theorem RowAt.lt {w : World} {b o : Nat} {d : List (Int × Int)} (h : RowAt w b o d) (hd : d ≠ []) : b < w.heap.size := by
  have h0 := (h 0 (by cases d with | nil => exact absurd rfl hd | cons x y => simp)).1
  rcases Nat.lt_or_ge b w.heap.size with h' | h'
  · exact h'
  · simp [World.cell?, h'] at h0
theorem RowAt.below {w w' : World} {b o : Nat} {d : List (Int × Int)} (h : RowAt w b o d) (hb : Below w.heap.size w w') : RowAt w' b o d := by
  intro i hi
  have hlt := h.lt (by intro e; subst e; simp at hi)
  exact ⟨(hb.cell (p := ⟨b, o + i * 2, none⟩) hlt).trans (h i hi).1, (hb.cell (p := ⟨b, o + i * 2 + 1, none⟩) hlt).trans (h i hi).2⟩

/-- The value is a slice of these stamps. -/
def IsS (w : World) (v : Value) (d : List (Int × Int)) : Prop :=
  ∃ (a : Option Addr) (cap : Nat), v = .slice a d.length cap ∧ d.length ≤ cap ∧ d.length ≤ 8796093022208 ∧ (d = [] ∨ ∃ b o, a = some ⟨b, o, none⟩ ∧ RowAt w b o d)
theorem IsS.below {w w' : World} {v : Value} {d : List (Int × Int)} (h : IsS w v d) (hb : Below w.heap.size w w') : IsS w' v d := by
  obtain ⟨a, cap, e, hc, hl, h⟩ := h
  refine ⟨a, cap, e, hc, hl, h.imp id fun ⟨b, o, e2, hr⟩ => ⟨b, o, e2, hr.below hb⟩⟩

theorem take_more {d1 d2 : List (Int × Int)} {k : Nat} (h1 : k < d1.length) (h2 : k < d2.length) (h : d1.take k = d2.take k) (e : d1[k] = d2[k]) : d1.take (k + 1) = d2.take (k + 1) := by
  rw [List.take_succ_eq_append_getElem h1, List.take_succ_eq_append_getElem h2, h, e]

end Go.Proofs.Ytccpljllgpabnab.S

namespace Go.Proofs.Ytccpljllgpabnab.S
open Go.RowKit
set_option linter.unusedVariables false

set_option maxHeartbeats 1000000 in
theorem has_any (v : Value) (d : List (Int × Int)) (c r : Int) (w : World) (h1 : IsS w v d) :
    Calls Try.prog 10 #[v, .agg #[.int .i64 c, .int .i64 r]] w fun e w' => e = .returned (.bool (decide ((c, r) ∈ d))) ∧ Below w.heap.size w w' := by
  obtain ⟨a1, c1, rfl, hc1, hl1, r1⟩ := h1
  have hbox : Below w.heap.size w (w.alloc (.cells #[.int .i64 c, .int .i64 r] 23)) := (Below.refl _ _).alloc (Nat.le_refl _) _
  go_enter Try.func10, Try.ntmps10
  go_wp2
  go_loopw [5] (fun i wr => ∃ k : Nat, k ≤ d.length ∧ i = .int .i64 (k : Int) ∧ (c, r) ∉ d.take k ∧ Below (w.heap.size + 1) (w.alloc (.cells #[.int .i64 c, .int .i64 r] 23)) wr) (fun i _ => d.length - (intOf i).toNat)
  case atStart => exact ⟨0, Nat.zero_le _, rfl, by simp, Below.refl _ _⟩
  case round =>
    obtain ⟨k, hk, rfl, ht, hb⟩ := hrel
    have HT : Hid ((c, r) ∉ d.take k) := ht
    clear ht
    have hbw : Below w.heap.size w wr := hbox.trans (hb.mono (by omega))
    have y1 : wr.cell? ⟨w.heap.size, 0, none⟩ = some (.int .i64 c) := (hb.cell (p := ⟨w.heap.size, 0, none⟩) (by show w.heap.size < _; omega)).trans (by simp [go_sem])
    have y2 : wr.cell? ⟨w.heap.size, 1, none⟩ = some (.int .i64 r) := (hb.cell (p := ⟨w.heap.size, 1, none⟩) (by show w.heap.size < _; omega)).trans (by simp [go_sem])
    by_cases hlt : k < d.length
    · obtain ⟨b1, o1, rfl, g1⟩ := r1.resolve_left (by intro e; subst e; simp at hlt)
      obtain ⟨x11, x12⟩ := (g1.below hbw) k hlt
      have k1 : (k : Int) < (d.length : Int) := by omega
      have k0 : (0 : Int) ≤ (k : Int) := by omega
      have hm : d[k] ∈ d := List.getElem_mem hlt
      by_cases hx : d[k] = (c, r)
      · have HM : Hid ((c, r) ∈ d) := hx ▸ hm
        rw [hx] at x11 x12
        clear hx hm g1 r1
        go_wp2
        go_quiet (fail)
        go_wp2
        go_ret
        exact ⟨ret_b (by simp [HM.out]), below_drewN hbw _⟩
      · have HM : Hid ((c, r) ∉ d.take (k + 1)) := by
          show _ ∉ _
          rw [List.take_succ_eq_append_getElem hlt, List.mem_append, List.mem_singleton, not_or]
          exact ⟨HT.out, fun e => hx e.symm⟩
        clear hm
        by_cases hf : d[k].1 = c
        · have q2 : (d[k].2 == r) = false := by
            rw [beq_eq_false_iff_ne]; intro e; exact hx (Prod.ext hf e)
          rw [hf] at x11
          clear hf hx g1 r1
          go_wp2
          go_quiet (fail)
          go_wp2
          go_roundw
          case rel => exact ⟨k + 1, by omega, by go_num, HM.out, below_drewN hb _⟩
          case measure => simp [intOf]; omega
        · have q2 : (d[k].1 == c) = false := by rw [beq_eq_false_iff_ne]; exact hf
          clear hf hx g1 r1
          go_wp2
          go_quiet (fail)
          go_wp2
          go_roundw
          case rel => exact ⟨k + 1, by omega, by go_num, HM.out, below_drewN hb _⟩
          case measure => simp [intOf]; omega
    · have he : Hid ((c, r) ∉ d) := by
        have h := HT.out
        rw [List.take_of_length_le (by omega)] at h
        exact h
      go_wp2
      go_ret
      exact ⟨ret_b (by simp [he.out]), hbw⟩

end Go.Proofs.Ytccpljllgpabnab.S

namespace Go.Proofs.Ytccpljllgpabnab.S
open Go.RowKit
set_option linter.unusedVariables false

/-- The cells of stamps. -/
def flat (d : List (Int × Int)) : List Value := d.flatMap fun x => [.int .i64 x.1, .int .i64 x.2]
theorem flat_snoc (d : List (Int × Int)) (x : Int × Int) : flat (d ++ [x]) = flat d ++ [.int .i64 x.1, .int .i64 x.2] := by simp [flat]
theorem flat_append (d e : List (Int × Int)) : flat (d ++ e) = flat d ++ flat e := by simp [flat]
theorem flat_length (d : List (Int × Int)) : (flat d).length = d.length * 2 := by
  induction d with
  | nil => rfl
  | cons x y ih => simp [flat] at ih ⊢; omega
theorem flat_get (d : List (Int × Int)) : ∀ i (h : i < d.length), (flat d)[i * 2]? = some (.int .i64 d[i].1) ∧ (flat d)[i * 2 + 1]? = some (.int .i64 d[i].2) := by
  induction d with
  | nil => intro i h; simp at h
  | cons x y ih =>
    intro i h
    have e : flat (x :: y) = .int .i64 x.1 :: .int .i64 x.2 :: flat y := rfl
    rw [e]
    match i with
    | 0 => exact ⟨rfl, rfl⟩
    | i + 1 =>
      have := ih i (by simpa using h)
      rw [show (i + 1) * 2 = i * 2 + 1 + 1 by omega]
      simpa using this
theorem flat_one (d : List (Int × Int)) : ∀ u ∈ flat d, u.oneCell' = true := by
  intro u hu
  simp only [flat, List.mem_flatMap] at hu
  obtain ⟨x, _, hx⟩ := hu
  simp at hx
  rcases hx with rfl | rfl <;> rfl

/-- The call's own row of these stamps, in a block from B on. -/
def OwnS (B : Nat) (w : World) (v : Value) (D : List (Int × Int)) : Prop := w.ownsRow B 23 2 v D.length (flat D)

theorem OwnS.below {B : Nat} {w w' : World} {v : Value} {D : List (Int × Int)} (h : OwnS B w v D) (hb : Below w.heap.size w w') : OwnS B w' v D := by
  refine ⟨h.1, ?_⟩
  rcases h.2 with hn | ⟨g, cap, cur, hv, hg, hc, rest⟩
  · exact .inl hn
  · refine .inr ⟨g, cap, cur, hv, hg, ?_, rest⟩
    have hlt : g < w.heap.size := (Array.getElem?_eq_some_iff.1 hc).1
    rw [hb.block g hlt]
    exact hc
theorem OwnS.isS {B : Nat} {w : World} {v : Value} {D : List (Int × Int)} (h : OwnS B w v D) (hl : D.length ≤ 8796093022208) : IsS w v D := by
  have h0 := h
  rcases h.2 with ⟨rfl, hn⟩ | ⟨g, cap, cur, rfl, hg, hc, hcap, rest⟩
  · have e : D = [] := List.eq_nil_of_length_eq_zero hn
    subst e
    exact ⟨none, 0, rfl, Nat.le_refl _, hl, .inl rfl⟩
  · refine ⟨_, cap, rfl, hcap, hl, .inr ⟨g, 0, rfl, fun i hi => ?_⟩⟩
    have hf := flat_get D i hi
    rw [show 0 + i * 2 = i * 2 by omega]
    exact ⟨(h0.cellAt (i * 2) (by omega)).trans hf.1, (h0.cellAt (i * 2 + 1) (by omega)).trans hf.2⟩
theorem OwnS.snoc {B : Nat} {w : World} {v : Value} {D : List (Int × Int)} {a b : Int} (h : w.ownsRow B 23 2 v (D.length + 1) (flat D ++ [.int .i64 a, .int .i64 b])) : OwnS B w v (D ++ [(a, b)]) := by
  unfold OwnS
  rw [flat_snoc]
  simpa using h
theorem OwnS.snoc2 {B : Nat} {w : World} {v : Value} {D : List (Int × Int)} {a b a2 b2 : Int} (h : w.ownsRow B 23 2 v (D.length + 1 + 1) (flat D ++ [.int .i64 a, .int .i64 b] ++ [.int .i64 a2, .int .i64 b2])) : OwnS B w v (D ++ [(a, b)] ++ [(a2, b2)]) := by
  unfold OwnS
  rw [flat_snoc, flat_snoc]
  simpa using h
theorem own_slice {B : Nat} {w : World} {v : Value} {n : Nat} {xs : List Value} (h : w.ownsRow B 23 2 v (n + 1) xs) : ∃ g cap, v = .slice (some ⟨g, 0, none⟩) (n + 1) cap ∧ B ≤ g := by
  rcases h.2 with ⟨_, hn⟩ | ⟨g, cap, cur, rfl, hg, _⟩
  · omega
  · exact ⟨g, cap, rfl, hg⟩
theorem OwnS.empty (w : World) (B : Nat) (hB : B ≤ w.heap.size) : OwnS B (w.alloc (.cells #[] 23)) (.slice (some ⟨w.heap.size, 0, none⟩) 0 0) [] :=
  World.ownsRow_made w #[] 0 hB (by unfold maxLen; omega) (by simp)
theorem OwnS.nil0 (w : World) (B : Nat) : OwnS B w (.slice none 0 0) [] := World.ownsRow_nil _ _ _ _
theorem OwnS.block {B : Nat} {w : World} {v : Value} {D : List (Int × Int)} (h : OwnS B w v D) : ∀ k, v.ownBlock = some k → B ≤ k := fun k e => (World.ownsRow.lt h k e).1
theorem OwnS.form {B : Nat} {w : World} {v : Value} {D : List (Int × Int)} (h : OwnS B w v D) : ∃ a cap, v = .slice a D.length cap := by
  rcases h.2 with ⟨rfl, hn⟩ | ⟨g, cap, cur, rfl, _⟩
  · exact ⟨none, 0, by rw [hn]⟩
  · exact ⟨_, cap, rfl⟩

theorem infoStamp : (Try.prog.info? 23).map (fun i => (i.zero, i.size, i.bytes)) = some (some (.agg #[.int .i64 0, .int .i64 0]), 2, 16) := by kernel_rfl

end Go.Proofs.Ytccpljllgpabnab.S

namespace Go.Proofs.Ytccpljllgpabnab.S
open Go.RowKit
set_option linter.unusedVariables false

/-- One round: what is built, and whether the stamp is in it. -/
def putStep (s : Int × Int) (p : List (Int × Int) × Bool) (x : Int × Int) : List (Int × Int) × Bool :=
  if p.2 = false ∧ lessS s.1 s.2 x.1 x.2 = true then (p.1 ++ [s] ++ [x], true) else (p.1 ++ [x], p.2)
def putTo (s : Int × Int) (d : List (Int × Int)) : List (Int × Int) × Bool := d.foldl (putStep s) ([], false)
def putL (d : List (Int × Int)) (s : Int × Int) : List (Int × Int) :=
  if s ∈ d then d else if (putTo s d).2 = true then (putTo s d).1 else (putTo s d).1 ++ [s]
/-- Four cells that a region reads, and all that was there. -/
def Kept4 (w0 : World) (A B : Nat) (o : Nat) (c r x y : Int) (w : World) : Prop :=
  (w.cell? ⟨A, 0, none⟩ = some (.int .i64 c) ∧ w.cell? ⟨A, 1, none⟩ = some (.int .i64 r) ∧ w.cell? ⟨B, o, none⟩ = some (.int .i64 x) ∧ w.cell? ⟨B, o + 1, none⟩ = some (.int .i64 y)) ∧ Below w0.heap.size w0 w
theorem Kept4.step {w0 : World} {A B o : Nat} {c r x y : Int} {W w' : World} (hA : A < w0.heap.size) (hB : B < w0.heap.size) (h : Kept4 w0 A B o c r x y W) (hb : Below W.heap.size W w') : Kept4 w0 A B o c r x y w' := by
  obtain ⟨⟨h1, h2, h3, h4⟩, hw⟩ := h
  have hs := hw.size
  exact ⟨⟨(hb.cell (p := ⟨A, 0, none⟩) (by show A < _; omega)).trans h1, (hb.cell (p := ⟨A, 1, none⟩) (by show A < _; omega)).trans h2, (hb.cell (p := ⟨B, o, none⟩) (by show B < _; omega)).trans h3, (hb.cell (p := ⟨B, o + 1, none⟩) (by show B < _; omega)).trans h4⟩, hw.trans (hb.mono hs)⟩

theorem putTo_next (s : Int × Int) (d : List (Int × Int)) (k : Nat) (h : k < d.length) : putTo s (d.take (k + 1)) = putStep s (putTo s (d.take k)) d[k] := by
  unfold putTo
  rw [List.take_succ_eq_append_getElem h, List.foldl_append]
  rfl
theorem putTo_length (s : Int × Int) : ∀ (d : List (Int × Int)), (putTo s d).1.length = d.length + if (putTo s d).2 = true then 1 else 0 := by
  have key : ∀ (d : List (Int × Int)) (p : List (Int × Int) × Bool), (d.foldl (putStep s) p).1.length + (if p.2 = true then 1 else 0) = p.1.length + d.length + if (d.foldl (putStep s) p).2 = true then 1 else 0 := by
    intro d
    induction d with
    | nil => intro p; obtain ⟨x, b⟩ := p; cases b <;> simp
    | cons x y ih =>
      intro p
      rw [List.foldl_cons]
      have h := ih (putStep s p x)
      unfold putStep at h ⊢
      split at h
      · rename_i hc
        rw [if_pos hc]
        simp [hc.1] at h ⊢
        omega
      · rename_i hc
        rw [if_neg hc]
        simp at h ⊢
        omega
  intro d
  have h := key d ([], false)
  simp at h
  exact h

end Go.Proofs.Ytccpljllgpabnab.S

namespace Go.Proofs.Ytccpljllgpabnab.S
open Go.RowKit
set_option linter.unusedVariables false

def sortL (l : List (Int × Int)) : List (Int × Int) := l.foldl putL []
theorem sortL_next (l : List (Int × Int)) (k : Nat) (h : k < l.length) : sortL (l.take (k + 1)) = putL (sortL (l.take k)) l[k] := by
  unfold sortL
  rw [List.take_succ_eq_append_getElem h, List.foldl_append]
  rfl
theorem putL_length (d : List (Int × Int)) (s : Int × Int) : (putL d s).length ≤ d.length + 1 := by
  unfold putL
  have h := putTo_length s d
  split
  · omega
  · split
    · rename_i h2; rw [if_pos h2] at h; omega
    · rename_i h2; rw [if_neg h2] at h; simp; omega
theorem sortL_length (l : List (Int × Int)) : ∀ k, k ≤ l.length → (sortL (l.take k)).length ≤ k := by
  intro k
  induction k with
  | zero => intro _; simp [sortL]
  | succ k ih =>
    intro h
    rw [sortL_next l k (by omega)]
    have := putL_length (sortL (l.take k)) l[k]
    have := ih (by omega)
    omega

theorem IsS.form {w : World} {v : Value} {d : List (Int × Int)} (h : IsS w v d) : ∃ a cap, v = .slice a d.length cap := by
  obtain ⟨a, cap, e, _⟩ := h
  exact ⟨a, cap, e⟩
theorem isS_empty (w : World) (a : Option Addr) : IsS w (.slice a 0 0) [] := ⟨a, 0, rfl, Nat.le_refl _, by simp, .inl rfl⟩

end Go.Proofs.Ytccpljllgpabnab.S

namespace Go.Proofs.Ytccpljllgpabnab.S
open Go.RowKit
set_option linter.unusedVariables false

theorem RowAt.news {w : World} {b o : Nat} {d : List (Int × Int)} (h : RowAt w b o d) : ∀ j u, (flat d)[j]? = some u → w.cell? ((⟨b, o, none⟩ : Addr).add j) = some u := by
  intro j u hj
  have hlt : j < d.length * 2 := by
    have := (List.getElem?_eq_some_iff.1 hj).1
    rw [flat_length] at this
    exact this
  have hf := flat_get d (j / 2) (by omega)
  have hr := h (j / 2) (by omega)
  by_cases he : j % 2 = 0
  · have e : j = j / 2 * 2 := by omega
    rw [e] at hj ⊢
    rw [hf.1] at hj
    cases hj
    rw [Lib.add_plain]
    exact hr.1
  · have e : j = j / 2 * 2 + 1 := by omega
    rw [e] at hj ⊢
    rw [hf.2] at hj
    cases hj
    rw [Lib.add_plain]
    exact hr.2

set_option maxHeartbeats 1000000 in
set_option maxRecDepth 100000 in
theorem clone_nil (w : World) (cap : Nat) : Calls Try.prog 70 #[.slice none 0 cap] w fun e w' => e = .returned (.slice none 0 0) ∧ w' = w := by
  have en := fun w => Lib.run_eql_slice_nil (P := Try.prog) w 34 23 none 0 cap 0 0 Try.underlying34
  go_enter Try.func70, Try.ntmps70
  go_wp2
  go_ret
  exact ⟨rfl, rfl⟩

set_option maxHeartbeats 1000000 in
set_option maxRecDepth 100000 in
theorem clone_some (ad : Addr) (cap : Nat) (d : List (Int × Int)) (w : World) (hr : ∀ j u, (flat d)[j]? = some u → (w.alloc (.cells #[] 23)).cell? (ad.add j) = some u) (hl : d.length ≤ 8796093022208) :
    Calls Try.prog 70 #[.slice (some ad) d.length cap] w fun e w' => ∃ v', e = .returned v' ∧ OwnS w.heap.size w' v' d ∧ Below w.heap.size w w' := by
  obtain ⟨i0, hi, hz0, hz1, hz2⟩ := info_parts infoStamp
  have HN : Hid (∀ j u, (flat d)[j]? = some u → (w.alloc (.cells #[] 23)).cell? (ad.add j) = some u) := hr
  have HO : Hid (OwnS w.heap.size (w.alloc (.cells #[] 23)) (.slice (some ⟨w.heap.size, 0, none⟩) 0 0) []) := OwnS.empty w _ (Nat.le_refl _)
  clear hr
  have en := fun w => Lib.run_eql_slice_nil (P := Try.prog) w 34 23 (some ad) d.length cap 0 0 Try.underlying34
  go_enter Try.func70, Try.ntmps70
  go_wp2_with (at_builtin; refine wpList_append_own _ rfl _ _ 34 rfl w.heap.size 23 i0 (.agg #[.int .i64 0, .int .i64 0]) 2 16 Try.underlying34 hi hz0 hz1 hz2 rfl (by decide) _ _ _ rfl HO.out ad d.length cap (flat d) rfl (flat_length d) HN.out (flat_one d) (by unfold maxLen; simp; omega) (by simp; omega) (by simp) ?_; intro v' w3 hown' hgrow3 hnil3)
  go_ret
  refine ⟨_, rfl, ?_, ?_⟩
  · unfold OwnS
    simpa [flat] using hown'
  · exact ((Below.refl _ _).alloc (Nat.le_refl _) _).grown hgrow3 (by simp) (fun j e => HO.out.block j e)

theorem clone_any (v : Value) (d : List (Int × Int)) (w : World) (h : IsS w v d) :
    Calls Try.prog 70 #[v] w fun e w' => ∃ v', e = .returned v' ∧ OwnS w.heap.size w' v' d ∧ Below w.heap.size w w' := by
  obtain ⟨a, cap, rfl, hc, hl, h⟩ := h
  match a with
  | none =>
    have e : d = [] := h.resolve_right (fun ⟨_, _, e, _⟩ => by cases e)
    subst e
    exact (clone_nil w cap).mono fun e w' ⟨he, hw⟩ => ⟨_, he, by rw [hw]; exact OwnS.nil0 _ _, by rw [hw]; exact Below.refl _ _⟩
  | some ad =>
    refine clone_some ad cap d w (fun j u hj => ?_) hl
    rcases h with rfl | ⟨b, o, e, hr⟩
    · simp [flat] at hj
    · cases e
      exact (hr.below ((Below.refl _ _).alloc (Nat.le_refl _) _)).news j u hj

end Go.Proofs.Ytccpljllgpabnab.S

namespace Go.Proofs.Ytccpljllgpabnab.S
open Go.RowKit
set_option linter.unusedVariables false

def sameB (x y : Int × Int) : Bool := decide (x = y)

set_option maxHeartbeats 400000 in
/-- The closure that asks whether two stamps are the same, by the order that it has captured. -/
theorem eq_any (P : Nat) (c r c2 r2 : Int) (w : World) (hP : w.cell? ⟨P, 0, none⟩ = some (.func (.func 58) #[] #[])) :
    Calls Try.prog 73 #[.agg #[.int .i64 c, .int .i64 r], .agg #[.int .i64 c2, .int .i64 r2], .pointer (some ⟨P, 0, none⟩)] w fun e w' => e = .returned (.bool (sameB (c, r) (c2, r2))) ∧ Below w.heap.size w w' := by
  have hlt : P < w.heap.size := by
    rcases Nat.lt_or_ge P w.heap.size with h' | h'
    · exact h'
    · simp [World.cell?, h'] at hP
  have z1 : P < w.heap.size + 1 := by omega
  have q : (cmpS c r c2 r2 == 0) = sameB (c, r) (c2, r2) := by
    unfold sameB
    rw [Bool.eq_iff_iff]
    simp only [beq_iff_eq, decide_eq_true_eq, Prod.mk.injEq]
    unfold cmpS
    repeat' split
    all_goals omega
  go_enter Try.func73, Try.ntmps73
  go_wp2_with fail
  refine (compare_any _ _ _ _ _).mono ?_
  rintro e w1 ⟨rfl, hb⟩
  go_wp2
  go_ret
  refine ⟨ret_b ?_, (((Below.refl _ w).alloc (Nat.le_refl _) _).alloc (by simp) _).trans (hb.mono (by simp <;> omega))⟩
  first | exact q | rfl

/-- Of neighbours that are the same one. -/
def cstep (a : List (Int × Int)) (x : Int × Int) : List (Int × Int) := if a.getLast? = some x then a else a ++ [x]
def compL (d : List (Int × Int)) : List (Int × Int) := d.foldl cstep []
theorem compL_next (d : List (Int × Int)) (m : Nat) (h : m < d.length) : compL (d.take (m + 1)) = cstep (compL (d.take m)) d[m] := by
  unfold compL
  rw [List.take_succ_eq_append_getElem h, List.foldl_append]
  rfl
theorem compL_last (d : List (Int × Int)) : ∀ m (h : m < d.length), (compL (d.take (m + 1))).getLast? = some d[m] := by
  intro m h
  rw [compL_next d m h]
  unfold cstep
  split
  · assumption
  · simp
theorem compL_same (d : List (Int × Int)) (m : Nat) (h : m + 1 < d.length) (e : d[m + 1] = d[m]) : compL (d.take (m + 1 + 1)) = compL (d.take (m + 1)) := by
  rw [compL_next d (m + 1) h]
  unfold cstep
  rw [if_pos (by rw [compL_last d m (by omega), e])]
theorem compL_other (d : List (Int × Int)) (m : Nat) (h : m + 1 < d.length) (e : d[m + 1] ≠ d[m]) : compL (d.take (m + 1 + 1)) = compL (d.take (m + 1)) ++ [d[m + 1]] := by
  rw [compL_next d (m + 1) h]
  unfold cstep
  rw [if_neg (by rw [compL_last d m (by omega)]; intro h; exact e (Option.some.inj h).symm)]

/-- A row that may be written, from a block's start on. -/
def RowF (w : World) (g : Nat) (d : List (Int × Int)) : Prop :=
  ∀ i (h : i < d.length), (w.cell? ⟨g, i * 2, none⟩ = some (.int .i64 d[i].1) ∧ w.cell? ⟨g, i * 2 + 1, none⟩ = some (.int .i64 d[i].2)) ∧ w.frozen? ⟨g, i * 2, none⟩ = false ∧ w.frozen? ⟨g, i * 2 + 1, none⟩ = false
theorem RowF.rowAt {w : World} {g : Nat} {d : List (Int × Int)} (h : RowF w g d) : RowAt w g 0 d := fun i hi => by rw [show 0 + i * 2 = i * 2 by omega]; exact (h i hi).1
theorem RowF.lt {w : World} {g : Nat} {d : List (Int × Int)} (h : RowF w g d) (hd : 0 < d.length) : g < w.heap.size := h.rowAt.lt (by intro e; subst e; simp at hd)
theorem RowF.below {w w' : World} {g : Nat} {d : List (Int × Int)} (h : RowF w g d) (hb : Below w.heap.size w w') : RowF w' g d := by
  intro i hi
  have hlt := h.lt (by omega)
  obtain ⟨⟨a, b⟩, c, e⟩ := h i hi
  exact ⟨⟨(hb.cell (p := ⟨g, i * 2, none⟩) hlt).trans a, (hb.cell (p := ⟨g, i * 2 + 1, none⟩) hlt).trans b⟩, (hb.frozen (p := ⟨g, i * 2, none⟩) hlt).trans c, (hb.frozen (p := ⟨g, i * 2 + 1, none⟩) hlt).trans e⟩
theorem RowF.drew {w : World} {g : Nat} {d : List (Int × Int)} (h : RowF w g d) : RowF w.drew g d := h.below ((Below.refl _ _).drew)

theorem RowF.set {w : World} {g k : Nat} {d : List (Int × Int)} (h : RowF w g d) (hk : k < d.length) (a b : Int) :
    RowF ((w.setCell ⟨g, k * 2, none⟩ (.int .i64 a)).setCell ⟨g, k * 2 + 1, none⟩ (.int .i64 b)) g (d.set k (a, b)) := by
  intro i hi
  have hi2 : i < d.length := by simpa using hi
  obtain ⟨⟨h1, h2⟩, h3, h4⟩ := h i hi2
  obtain ⟨⟨k1, k2⟩, k3, k4⟩ := h k hk
  refine ⟨?_, by rw [World.frozen?_setCell, World.frozen?_setCell]; exact h3, by rw [World.frozen?_setCell, World.frozen?_setCell]; exact h4⟩
  by_cases e : i = k
  · subst e
    have e1 : (w.setCell ⟨g, i * 2, none⟩ (.int .i64 a)).cell? ⟨g, i * 2, none⟩ = some (.int .i64 a) := World.cell?_setCell_same' _ _ _ (by rw [k1]; rfl)
    have e2 : (w.setCell ⟨g, i * 2, none⟩ (.int .i64 a)).cell? ⟨g, i * 2 + 1, none⟩ = some (.int .i64 d[i].2) := (World.cell?_setCell_other _ _ _ _ (by simp)).trans h2
    constructor
    · rw [World.cell?_setCell_other _ _ _ _ (by simp), e1]; simp
    · rw [World.cell?_setCell_same' _ _ _ (by rw [e2]; rfl)]; simp
  · constructor
    · rw [World.cell?_setCell_other _ _ _ _ (by simp <;> omega), World.cell?_setCell_other _ _ _ _ (by simp <;> omega), h1]
      simp [Ne.symm e]
    · rw [World.cell?_setCell_other _ _ _ _ (by simp <;> omega), World.cell?_setCell_other _ _ _ _ (by simp <;> omega), h2]
      simp [Ne.symm e]

end Go.Proofs.Ytccpljllgpabnab.S
