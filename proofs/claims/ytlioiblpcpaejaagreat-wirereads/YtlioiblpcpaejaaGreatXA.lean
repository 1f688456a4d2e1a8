/- Plain facts on clocks: lists of numbers, trimmed, merged, held against one another. No program is named here. -/
import Derived.Test.YtlioiblpcpaejaaGreatRows
import Derived.WalkKit
import Derived.WalkSpells
import Derived.Deep.QuietTactic
import Derived.BigQuiet
import Derived.RowKit3
import Derived.WalkSmall
import Derived.Maps.AppendAt
import Derived.OwnWalk
import Derived.Deep.RegionHeld3
namespace Go.Proofs.YtlioiblpcpaejaaGreat

/-- A list without the noughts at its end. -/
def trimL : List Int → List Int
  | [] => []
  | x :: t => if trimL t = [] then (if x = 0 then [] else [x]) else x :: trimL t

theorem trim_nil : trimL [] = [] := rfl
theorem trim_cons (x : Int) (t : List Int) : trimL (x :: t) = if trimL t = [] then (if x = 0 then [] else [x]) else x :: trimL t := rfl

theorem trim_zero (l : List Int) : trimL (l ++ [0]) = trimL l := by
  induction l with
  | nil => rfl
  | cons x t ih => rw [List.cons_append, trim_cons, trim_cons, ih]

theorem trim_keep (l : List Int) (x : Int) (h : x ≠ 0) : trimL (l ++ [x]) = l ++ [x] := by
  induction l with
  | nil => simp [trimL, h]
  | cons y t ih => rw [List.cons_append, trim_cons, ih]; simp

theorem trim_zeros (l : List Int) (n : Nat) : trimL (l ++ List.replicate n 0) = trimL l := by
  induction n with
  | zero => simp
  | succ n ih => rw [List.replicate_succ', ← List.append_assoc, trim_zero, ih]

theorem trim_length (l : List Int) : (trimL l).length ≤ l.length := by
  induction l with
  | nil => simp [trimL]
  | cons x t ih => rw [trim_cons]; split <;> (try split) <;> simp <;> omega

theorem trim_getD (l : List Int) : ∀ k, (trimL l).getD k 0 = l.getD k 0 := by
  induction l with
  | nil => intro k; rfl
  | cons x t ih =>
    intro k
    rw [trim_cons]
    split
    · rename_i h
      have ht : ∀ j, t.getD j 0 = 0 := fun j => by rw [← ih j, h]; rfl
      split
      · rename_i hx
        subst hx
        cases k with
        | zero => rfl
        | succ j => simp only [List.getD_cons_succ, ht j]; rfl
      · cases k with
        | zero => rfl
        | succ j => simp only [List.getD_cons_succ, ht j]; rfl
    · cases k with
      | zero => rfl
      | succ j => simp only [List.getD_cons_succ]; exact ih j

theorem trim_none (l : List Int) (h : ∀ k, l.getD k 0 = 0) : trimL l = [] := by
  induction l with
  | nil => rfl
  | cons x t ih =>
    have hx := h 0
    simp at hx
    rw [trim_cons, if_pos (ih fun k => by simpa using h (k + 1)), if_pos hx]

/-- Lists that say the same are the same when trimmed. -/
theorem trim_ext (a : List Int) : ∀ b : List Int, (∀ k, a.getD k 0 = b.getD k 0) → trimL a = trimL b := by
  induction a with
  | nil => intro b h; rw [trim_none b (fun k => (h k).symm)]; rfl
  | cons x t ih =>
    intro b h
    cases b with
    | nil => rw [trim_none (x :: t) (fun k => by rw [h k]; rfl)]; rfl
    | cons y s =>
      have hx : x = y := by simpa using h 0
      have ht := ih s (fun k => by simpa using h (k + 1))
      rw [trim_cons, trim_cons, hx, ht]

theorem trim_idem (l : List Int) : trimL (trimL l) = trimL l := trim_ext _ _ (trim_getD l)

theorem getD_mem {l : List Int} {k : Nat} (h : k < l.length) : l.getD k 0 ∈ l := by
  rw [List.getD_eq_getElem?_getD, List.getElem?_eq_getElem h]; exact List.getElem_mem h
theorem getD_at {l : List Int} {k : Nat} (h : k < l.length) : l.getD k 0 = l[k] := by
  rw [List.getD_eq_getElem?_getD, List.getElem?_eq_getElem h]; rfl
theorem getD_out {l : List Int} {k : Nat} (h : l.length ≤ k) : l.getD k 0 = 0 := by
  rw [List.getD_eq_getElem?_getD, List.getElem?_eq_none h]; rfl

/-- What is left ahead of the noughts at the end. -/
theorem trim_take (l : List Int) : ∀ e, e ≤ l.length → (∀ i, e ≤ i → l.getD i 0 = 0) → (e = 0 ∨ l.getD (e - 1) 0 ≠ 0) → trimL l = l.take e := by
  intro e he h0 h1
  have hx : trimL l = trimL (l.take e) := by
    apply trim_ext
    intro k
    by_cases hk : k < e
    · simp [List.getD_eq_getElem?_getD, hk]
    · rw [h0 k (by omega)]
      simp [List.getD_eq_getElem?_getD, List.getElem?_take, hk]
  rw [hx]
  rcases h1 with rfl | h1
  · rfl
  · have h2 : e - 1 < l.length := by
      rcases Nat.lt_or_ge (e - 1) l.length with h | h
      · exact h
      · exact absurd (getD_out h) h1
    have h3 : e ≠ 0 := fun h => h1 (by subst h; exact h0 0 (Nat.le_refl _))
    have e1 : l.take e = l.take (e - 1) ++ [l[e - 1]] := by
      conv => lhs; rw [show e = (e - 1) + 1 by omega]
      exact List.take_succ_eq_append_getElem h2
    rw [e1]
    exact trim_keep _ _ (by rw [← getD_at h2]; exact h1)

/-! ### Right clocks -/
def OkC (d : List Int) : Prop := d.length ≤ 64 ∧ ∀ x ∈ d, 0 ≤ x ∧ x ≤ 1099511627776
def inC (x : Int) : Bool := decide (0 ≤ x ∧ x ≤ 1099511627776)
def checkL (d : List Int) : Int := if 64 < d.length then 3 else if d.all inC = true then 0 else 1
theorem checkL_ok (d : List Int) : checkL d = 0 ↔ OkC d := by
  unfold checkL OkC
  by_cases h : 64 < d.length
  · rw [if_pos h]
    constructor
    · intro h2; cases h2
    · intro h2; omega
  · rw [if_neg h]
    by_cases h2 : d.all inC = true
    · rw [if_pos h2]
      refine ⟨fun _ => ⟨by omega, fun x hx => ?_⟩, fun _ => rfl⟩
      have := List.all_eq_true.1 h2 x hx
      simpa [inC] using this
    · rw [if_neg h2]
      refine ⟨fun h3 => absurd h3 (by decide), fun h3 => absurd (List.all_eq_true.2 fun x hx => ?_) h2⟩
      simpa [inC] using h3.2 x hx
theorem checkL_cases (d : List Int) : checkL d = 0 ∨ checkL d = 3 ∨ checkL d = 1 := by
  unfold checkL
  split
  · simp
  · split <;> simp
def twoL (a b : List Int) : Int := if checkL a = 0 then checkL b else checkL a
theorem twoL_ok (a b : List Int) : twoL a b = 0 ↔ OkC a ∧ OkC b := by
  unfold twoL
  split
  · rename_i h; rw [checkL_ok]; exact ⟨fun h2 => ⟨(checkL_ok a).1 h, h2⟩, fun h2 => h2.2⟩
  · rename_i h; exact ⟨fun h2 => absurd h2 h, fun h2 => absurd ((checkL_ok a).2 h2.1) h⟩

theorem OkC.getD {d : List Int} (h : OkC d) (k : Nat) : 0 ≤ d.getD k 0 ∧ d.getD k 0 ≤ 1099511627776 := by
  rcases Nat.lt_or_ge k d.length with hk | hk
  · exact h.2 _ (getD_mem hk)
  · rw [getD_out hk]; omega
theorem okC_of (d : List Int) (h1 : d.length ≤ 64) (h : ∀ k, 0 ≤ d.getD k 0 ∧ d.getD k 0 ≤ 1099511627776) : OkC d := by
  refine ⟨h1, fun x hx => ?_⟩
  obtain ⟨k, hk, rfl⟩ := List.mem_iff_getElem.1 hx
  rw [← getD_at hk]
  exact h k
theorem OkC.trim {d : List Int} (h : OkC d) : OkC (trimL d) := okC_of _ (by have := trim_length d; have := h.1; omega) fun k => by rw [trim_getD]; exact h.getD k

/-! ### The greater numbers -/
def maxTo (a b : List Int) (n : Nat) : List Int := (List.range n).map fun r => max (a.getD r 0) (b.getD r 0)
theorem maxTo_succ (a b : List Int) (n : Nat) : maxTo a b (n + 1) = maxTo a b n ++ [max (a.getD n 0) (b.getD n 0)] := by simp [maxTo, List.range_succ]
theorem maxTo_length (a b : List Int) (n : Nat) : (maxTo a b n).length = n := by simp [maxTo]
theorem maxTo_getD (a b : List Int) (n k : Nat) : (maxTo a b n).getD k 0 = if k < n then max (a.getD k 0) (b.getD k 0) else 0 := by
  by_cases h : k < n
  · simp [maxTo, List.getD_eq_getElem?_getD, h]
  · simp [maxTo, List.getD_eq_getElem?_getD, h]
def mergeL (a b : List Int) : List Int := trimL (maxTo a b (max a.length b.length))
theorem mergeL_getD (a b : List Int) (k : Nat) : (mergeL a b).getD k 0 = max (a.getD k 0) (b.getD k 0) := by
  unfold mergeL
  rw [trim_getD, maxTo_getD]
  split
  · rfl
  · rw [getD_out (l := a) (by omega), getD_out (l := b) (by omega)]; rfl
theorem mergeL_64 {a b : List Int} (ha : a.length ≤ 64) (hb : b.length ≤ 64) : trimL (maxTo a b 64) = mergeL a b := by
  refine (trim_ext _ _ fun k => ?_).trans (trim_idem _)
  show _ = (mergeL a b).getD k 0
  rw [maxTo_getD, mergeL_getD]
  split
  · rfl
  · rw [getD_out (l := a) (by omega), getD_out (l := b) (by omega)]; rfl
theorem mergeL_length (a b : List Int) : (mergeL a b).length ≤ max a.length b.length := by
  unfold mergeL
  have := trim_length (maxTo a b (max a.length b.length))
  rw [maxTo_length] at this
  exact this
theorem OkC.merge {a b : List Int} (ha : OkC a) (hb : OkC b) : OkC (mergeL a b) := okC_of _ (by have := mergeL_length a b; have := ha.1; have := hb.1; omega) fun k => by
  rw [mergeL_getD]
  have := ha.getD k
  have := hb.getD k
  omega
theorem mergeL_trim (a b : List Int) : trimL (mergeL a b) = mergeL a b := trim_idem _
theorem mergeL_ext {a b c d : List Int} (h : ∀ k, max (a.getD k 0) (b.getD k 0) = max (c.getD k 0) (d.getD k 0)) : mergeL a b = mergeL c d := by
  rw [← mergeL_trim a b, ← mergeL_trim c d]
  exact trim_ext _ _ fun k => by rw [mergeL_getD, mergeL_getD, h k]
theorem mergeL_comm (a b : List Int) : mergeL a b = mergeL b a := mergeL_ext fun k => by omega
theorem mergeL_assoc (a b c : List Int) : mergeL (mergeL a b) c = mergeL a (mergeL b c) := mergeL_ext fun k => by rw [mergeL_getD, mergeL_getD]; omega

/-! ### Who is above -/
def underB (a b : List Int) : Bool := (List.range a.length).all fun r => decide (a.getD r 0 ≤ b.getD r 0)
theorem underB_iff (a b : List Int) : underB a b = true ↔ ∀ r, r < a.length → a.getD r 0 ≤ b.getD r 0 := by
  unfold underB
  rw [List.all_eq_true]
  simp
theorem underB_no (a b : List Int) (r : Nat) (h : r < a.length) (h2 : b.getD r 0 < a.getD r 0) : underB a b = false := by
  cases e : underB a b
  · rfl
  · have := (underB_iff a b).1 e r h; omega
theorem under_all {a b : List Int} (hb : OkC b) (h : underB a b = true) (k : Nat) : a.getD k 0 ≤ b.getD k 0 := by
  rcases Nat.lt_or_ge k a.length with hk | hk
  · exact (underB_iff a b).1 h k hk
  · rw [getD_out hk]; exact (hb.getD k).1
def compL (a b : List Int) : Int := if underB a b = true then (if underB b a = true then 0 else 1) else (if underB b a = true then 2 else 3)

/-! ### Gaps -/
def gapAt (a b : List Int) (r : Nat) : List (Int × Int × Int) := if b.getD r 0 < a.getD r 0 then [((r : Int), b.getD r 0 + 1, a.getD r 0)] else []
def gapsTo (a b : List Int) (n : Nat) : List (Int × Int × Int) := (List.range n).flatMap (gapAt a b)
def gapsL (a b : List Int) : List (Int × Int × Int) := gapsTo a b a.length
theorem gapsTo_succ (a b : List Int) (n : Nat) : gapsTo a b (n + 1) = gapsTo a b n ++ gapAt a b n := by simp [gapsTo, List.range_succ]
theorem gapsTo_zero (a b : List Int) : gapsTo a b 0 = [] := rfl
theorem gapAt_length (a b : List Int) (n : Nat) : (gapAt a b n).length ≤ 1 := by unfold gapAt; split <;> simp
theorem gapsTo_length (a b : List Int) (n : Nat) : (gapsTo a b n).length ≤ n := by
  induction n with
  | zero => simp [gapsTo]
  | succ n ih => rw [gapsTo_succ, List.length_append]; have := gapAt_length a b n; omega
theorem gaps_none (a b : List Int) : gapsL a b = [] ↔ underB a b = true := by
  rw [underB_iff]
  unfold gapsL gapsTo
  rw [List.flatMap_eq_nil_iff]
  constructor
  · intro h r hr
    have := h r (by simpa using hr)
    unfold gapAt at this
    split at this
    · cases this
    · omega
  · intro h r hr
    have := h r (by simpa using hr)
    unfold gapAt
    rw [if_neg (by omega)]

/-! ### One more -/
def tickTo (d : List Int) (r n : Nat) : List Int := (List.range n).map fun i => if i = r then d.getD i 0 + 1 else d.getD i 0
theorem tickTo_succ (d : List Int) (r n : Nat) : tickTo d r (n + 1) = tickTo d r n ++ [if n = r then d.getD n 0 + 1 else d.getD n 0] := by simp [tickTo, List.range_succ]
theorem tickTo_length (d : List Int) (r n : Nat) : (tickTo d r n).length = n := by simp [tickTo]
theorem tickTo_getD (d : List Int) (r n k : Nat) : (tickTo d r n).getD k 0 = if k < n then (if k = r then d.getD k 0 + 1 else d.getD k 0) else 0 := by
  by_cases h : k < n
  · simp [tickTo, List.getD_eq_getElem?_getD, h]
  · simp [tickTo, List.getD_eq_getElem?_getD, h]
def tickL (d : List Int) (r : Nat) : List Int := trimL (tickTo d r (max d.length (r + 1)))
theorem tickL_64 {d : List Int} {r : Nat} (hd : d.length ≤ 64) (hr : r < 64) : trimL (tickTo d r 64) = tickL d r := by
  unfold tickL
  refine trim_ext _ _ fun k => ?_
  rw [tickTo_getD, tickTo_getD]
  by_cases h : k < max d.length (r + 1)
  · rw [if_pos (by omega), if_pos h]
  · rw [if_neg h]
    split
    · rw [if_neg (by omega), getD_out (by omega)]
    · rfl

end Go.Proofs.YtlioiblpcpaejaaGreat

namespace Go.Proofs.YtlioiblpcpaejaaGreat
open Go.RowKit
set_option linter.unusedVariables false

theorem ret_b {a b : Bool} (h : a = b) : Ending.returned (.bool a) = .returned (.bool b) := by rw [h]
theorem ret_i {a b : Int} (h : a = b) : Ending.returned (.int .i64 a) = .returned (.int .i64 b) := by rw [h]

/-- From block b, offset o on lie these numbers. -/
def IntsAt (w : World) (b o : Nat) (d : List Int) : Prop := ∀ i (h : i < d.length), w.cell? ⟨b, o + i, none⟩ = some (.int .i64 d[i])
theorem IntsAt.lt {w : World} {b o : Nat} {d : List Int} (h : IntsAt w b o d) (hd : d ≠ []) : b < w.heap.size := by
  have h0 := h 0 (by cases d with | nil => exact absurd rfl hd | cons x y => simp)
  rcases Nat.lt_or_ge b w.heap.size with h' | h'
  · exact h'
  · simp [World.cell?, h'] at h0
theorem IntsAt.below {w w' : World} {b o : Nat} {d : List Int} (h : IntsAt w b o d) (hb : Below w.heap.size w w') : IntsAt w' b o d := by
  intro i hi
  have hlt := h.lt (by intro e; subst e; simp at hi)
  exact (hb.cell (p := ⟨b, o + i, none⟩) hlt).trans (h i hi)
theorem IntsAt.take {w : World} {b o : Nat} {d : List Int} (h : IntsAt w b o d) (e : Nat) : IntsAt w b o (d.take e) := by
  intro i hi
  rw [List.length_take] at hi
  rw [List.getElem_take]
  exact h i (by omega)

/-- The value is a slice of these numbers. -/
def IsI (w : World) (v : Value) (d : List Int) : Prop :=
  ∃ (a : Option Addr) (cap : Nat), v = .slice a d.length cap ∧ d.length ≤ cap ∧ d.length ≤ 17592186044416 ∧ (d = [] ∨ ∃ b o, a = some ⟨b, o, none⟩ ∧ IntsAt w b o d)
theorem IsI.below {w w' : World} {v : Value} {d : List Int} (h : IsI w v d) (hb : Below w.heap.size w w') : IsI w' v d := by
  obtain ⟨a, cap, e, hc, hl, h⟩ := h
  refine ⟨a, cap, e, hc, hl, h.imp id fun ⟨b, o, e2, hr⟩ => ⟨b, o, e2, hr.below hb⟩⟩
theorem IsI.form {w : World} {v : Value} {d : List Int} (h : IsI w v d) : ∃ a cap, v = .slice a d.length cap := by obtain ⟨a, cap, e, _⟩ := h; exact ⟨a, cap, e⟩
theorem IsI.non {w : World} (cap : Nat) : IsI w (.slice none 0 cap) [] := ⟨none, cap, rfl, Nat.zero_le _, by simp, .inl rfl⟩

/-- The call's own row of these numbers, in a block from B on. -/
def cellsI (d : List Int) : List Value := d.map fun x => .int .i64 x
def OwnI (B : Nat) (w : World) (v : Value) (D : List Int) : Prop := w.ownsRow B 3 1 v D.length (cellsI D)
theorem cellsI_length (d : List Int) : (cellsI d).length = d.length * 1 := by simp [cellsI]
theorem cellsI_one (d : List Int) : ∀ u ∈ cellsI d, u.oneCell' = true := by
  intro u hu
  simp only [cellsI, List.mem_map] at hu
  obtain ⟨x, _, rfl⟩ := hu
  rfl
theorem IntsAt.news {w : World} {b o : Nat} {d : List Int} (h : IntsAt w b o d) : ∀ j u, (cellsI d)[j]? = some u → w.cell? ((⟨b, o, none⟩ : Addr).add j) = some u := by
  intro j u hj
  obtain ⟨hl, he⟩ := List.getElem?_eq_some_iff.1 hj
  have hl' : j < d.length := by simpa [cellsI] using hl
  have := h j hl'
  simp [cellsI] at he
  subst he
  rw [Addr.add_lit]
  exact this
theorem OwnI.below {B : Nat} {w w' : World} {v : Value} {D : List Int} (h : OwnI B w v D) (hb : Below w.heap.size w w') : OwnI B w' v D := by
  refine ⟨h.1, ?_⟩
  rcases h.2 with hn | ⟨g, cap, cur, hv, hg, hc, rest⟩
  · exact .inl hn
  · refine .inr ⟨g, cap, cur, hv, hg, ?_, rest⟩
    have hlt : g < w.heap.size := (Array.getElem?_eq_some_iff.1 hc).1
    rw [hb.block g hlt]
    exact hc
theorem OwnI.isI {B : Nat} {w : World} {v : Value} {D : List Int} (h : OwnI B w v D) (hl : D.length ≤ 17592186044416) : IsI w v D := by
  have h0 := h
  rcases h.2 with ⟨rfl, hn⟩ | ⟨g, cap, cur, rfl, hg, hc, hcap, rest⟩
  · have e : D = [] := List.eq_nil_of_length_eq_zero hn
    subst e
    exact IsI.non 0
  · refine ⟨_, cap, rfl, hcap, hl, .inr ⟨g, 0, rfl, fun i hi => ?_⟩⟩
    have := h0.cellAt i (by omega)
    rw [show 0 + i = i by omega, this]
    simp [cellsI, hi]
theorem OwnI.snoc {B : Nat} {w : World} {v : Value} {D : List Int} {x : Int} (h : w.ownsRow B 3 1 v (D.length + 1) (cellsI D ++ [.int .i64 x])) : OwnI B w v (D ++ [x]) := by
  unfold OwnI
  have e : cellsI (D ++ [x]) = cellsI D ++ [.int .i64 x] := by simp [cellsI]
  rw [e]
  simpa using h
theorem OwnI.empty (w : World) (B : Nat) (hB : B ≤ w.heap.size) : OwnI B (w.alloc (.cells #[] 3)) (.slice (some ⟨w.heap.size, 0, none⟩) 0 0) [] :=
  World.ownsRow_made w #[] 0 hB (by unfold maxLen; omega) (by simp)
theorem OwnI.nil0 (w : World) (B : Nat) : OwnI B w (.slice none 0 0) [] := World.ownsRow_nil _ _ _ _
theorem OwnI.block {B : Nat} {w : World} {v : Value} {D : List Int} (h : OwnI B w v D) : ∀ k, v.ownBlock = some k → B ≤ k := fun k e => (World.ownsRow.lt h k e).1
theorem OwnI.form {B : Nat} {w : World} {v : Value} {D : List Int} (h : OwnI B w v D) : ∃ a cap, v = .slice a D.length cap := by
  rcases h.2 with ⟨rfl, hn⟩ | ⟨g, cap, cur, rfl, _⟩
  · exact ⟨none, 0, by rw [hn]⟩
  · exact ⟨_, cap, rfl⟩
theorem infoInt : (Tryz.prog.info? 3).map (fun i => (i.zero, i.size, i.bytes)) = some (some (.int .i64 0), 1, 8) := by kernel_rfl

end Go.Proofs.YtlioiblpcpaejaaGreat

namespace Go.Proofs.YtlioiblpcpaejaaGreat
open Go.RowKit
set_option linter.unusedVariables false

theorem inC_yes {x : Int} (h0 : 0 ≤ x) (h1 : x ≤ 1099511627776) : inC x = true := by simp [inC, h0, h1]
theorem inC_no {x : Int} (h : x < 0 ∨ 1099511627776 < x) : inC x = false := by simp [inC]; omega
theorem all_snoc {d : List Int} {k : Nat} (h : k < d.length) (h1 : (d.take k).all inC = true) (h2 : inC d[k] = true) : (d.take (k + 1)).all inC = true := by
  rw [List.take_succ_eq_append_getElem h, List.all_append, h1]; simp [h2]
theorem all_no {d : List Int} {k : Nat} (h : k < d.length) (h2 : inC d[k] = false) : d.all inC = false := by
  rw [List.all_eq_false]; exact ⟨_, List.getElem_mem h, by simp [h2]⟩
theorem checkL_long {d : List Int} (h : 64 < d.length) : checkL d = 3 := by unfold checkL; rw [if_pos h]
theorem checkL_no {d : List Int} (h : ¬ 64 < d.length) (h2 : d.all inC = false) : checkL d = 1 := by unfold checkL; rw [if_neg h, h2]; rfl
theorem checkL_yes {d : List Int} (h : ¬ 64 < d.length) {k : Nat} (hk : d.length ≤ k) (h2 : (d.take k).all inC = true) : checkL d = 0 := by
  rw [List.take_of_length_le hk] at h2
  unfold checkL; rw [if_neg h, h2]; rfl

set_option maxHeartbeats 1000000 in
/-- clock.Check. -/
theorem check_any (v : Value) (d : List Int) (w : World) (h1 : IsI w v d) :
    Calls Tryz.prog 37 #[v] w fun e w' => e = .returned (.int .i64 (checkL d)) ∧ w' = w := by
  obtain ⟨a1, c1, rfl, hc1, hl1, r1⟩ := h1
  by_cases hl : 64 < d.length
  · have HE : Hid (checkL d = 3) := checkL_long hl
    go_enter Tryz.func37, Tryz.ntmps37
    go_wp2
    go_ret
    exact ⟨ret_i HE.out.symm, rfl⟩
  · go_enter Tryz.func37, Tryz.ntmps37
    go_wp2
    go_loop [10] (fun i => ∃ k : Nat, k ≤ d.length ∧ i = .int .i64 (k : Int) ∧ Hid ((d.take k).all inC = true)) (fun i => d.length - (intOf i).toNat)
    case atStart => exact ⟨0, Nat.zero_le _, rfl, by show _ = _; simp⟩
    case round =>
      obtain ⟨k, hk, rfl, HA⟩ := hrel
      by_cases hlt : k < d.length
      · obtain ⟨b1, o1, rfl, g1⟩ := r1.resolve_left (by intro e; subst e; simp at hlt)
        have x1 := g1 k hlt
        have k1 : (k : Int) < (d.length : Int) := by omega
        have k0 : (0 : Int) ≤ (k : Int) := by omega
        by_cases hx : d[k] < 0
        · have HE : Hid (checkL d = 1) := checkL_no hl (all_no hlt (inC_no (.inl hx)))
          clear g1 r1
          go_wp2
          go_ret
          exact ⟨ret_i HE.out.symm, rfl⟩
        · by_cases hy : 1099511627776 < d[k]
          · have HE : Hid (checkL d = 1) := checkL_no hl (all_no hlt (inC_no (.inr hy)))
            clear g1 r1
            go_wp2
            go_ret
            exact ⟨ret_i HE.out.symm, rfl⟩
          · have HM : Hid ((d.take (k + 1)).all inC = true) := all_snoc hlt HA.out (inC_yes (by omega) (by omega))
            clear g1 r1
            go_wp2
            go_round
            case rel => exact ⟨k + 1, by omega, by go_num, HM⟩
            case measure => simp [intOf]; omega
      · have HE : Hid (checkL d = 0) := checkL_yes hl (by omega) HA.out
        go_wp2
        go_ret
        exact ⟨ret_i HE.out.symm, rfl⟩

set_option maxHeartbeats 1000000 in
/-- The document's Check. -/
theorem refCheck_any (v : Value) (d : List Int) (w : World) (h1 : IsI w v d) :
    Calls Tryz.prog 66 #[v] w fun e w' => e = .returned (.int .i64 (checkL d)) ∧ w' = w := by
  obtain ⟨a1, c1, rfl, hc1, hl1, r1⟩ := h1
  by_cases hl : 64 < d.length
  · have HE : Hid (checkL d = 3) := checkL_long hl
    go_enter Tryz.func66, Tryz.ntmps66
    go_wp2
    go_ret
    exact ⟨ret_i HE.out.symm, rfl⟩
  · go_enter Tryz.func66, Tryz.ntmps66
    go_wp2
    go_loop [3] (fun i => ∃ k : Nat, k ≤ d.length ∧ i = .int .i64 (k : Int) ∧ Hid ((d.take k).all inC = true)) (fun i => d.length - (intOf i).toNat)
    case atStart => exact ⟨0, Nat.zero_le _, rfl, by show _ = _; simp⟩
    case round =>
      obtain ⟨k, hk, rfl, HA⟩ := hrel
      by_cases hlt : k < d.length
      · obtain ⟨b1, o1, rfl, g1⟩ := r1.resolve_left (by intro e; subst e; simp at hlt)
        have x1 := g1 k hlt
        have k1 : (k : Int) < (d.length : Int) := by omega
        have k0 : (0 : Int) ≤ (k : Int) := by omega
        by_cases hx : d[k] < 0
        · have HE : Hid (checkL d = 1) := checkL_no hl (all_no hlt (inC_no (.inl hx)))
          clear g1 r1
          go_wp2
          go_ret
          exact ⟨ret_i HE.out.symm, rfl⟩
        · by_cases hy : 1099511627776 < d[k]
          · have HE : Hid (checkL d = 1) := checkL_no hl (all_no hlt (inC_no (.inr hy)))
            clear g1 r1
            go_wp2
            go_ret
            exact ⟨ret_i HE.out.symm, rfl⟩
          · have HM : Hid ((d.take (k + 1)).all inC = true) := all_snoc hlt HA.out (inC_yes (by omega) (by omega))
            clear g1 r1
            go_wp2
            go_round
            case rel => exact ⟨k + 1, by omega, by go_num, HM⟩
            case measure => simp [intOf]; omega
      · have HE : Hid (checkL d = 0) := checkL_yes hl (by omega) HA.out
        go_wp2
        go_ret
        exact ⟨ret_i HE.out.symm, rfl⟩

/-- The number at a place. -/
def atL (d : List Int) (r : Int) : Int := if 0 ≤ r then d.getD r.toNat 0 else 0
theorem atL_nat (d : List Int) (k : Nat) : atL d (k : Int) = d.getD k 0 := by unfold atL; rw [if_pos (by omega)]; simp
theorem atL_out {d : List Int} {r : Int} (h : r < 0 ∨ (d.length : Int) ≤ r) : atL d r = 0 := by
  unfold atL
  split
  · exact getD_out (by omega)
  · rfl
theorem atL_in {d : List Int} {k : Nat} (h : k < d.length) : atL d (k : Int) = d[k] := by rw [atL_nat, getD_at h]

set_option maxHeartbeats 1000000 in
/-- clock.At. -/
theorem at_any (v : Value) (d : List Int) (r : Int) (w : World) (h1 : IsI w v d) :
    Calls Tryz.prog 89 #[v, .int .i64 r] w fun e w' => e = .returned (.int .i64 (atL d r)) ∧ w' = w := by
  obtain ⟨a1, c1, rfl, hc1, hl1, r1⟩ := h1
  by_cases h0 : r < 0
  · have HE : Hid (atL d r = 0) := atL_out (.inl h0)
    go_enter Tryz.func89, Tryz.ntmps89
    go_wp2
    go_ret
    exact ⟨ret_i HE.out.symm, rfl⟩
  · obtain ⟨k, rfl⟩ : ∃ k : Nat, r = (k : Int) := ⟨r.toNat, by omega⟩
    by_cases hlt : k < d.length
    · obtain ⟨b1, o1, rfl, g1⟩ := r1.resolve_left (by intro e; subst e; simp at hlt)
      have x1 := g1 k hlt
      have HE : Hid (atL d (k : Int) = d[k]) := atL_in hlt
      have k1 : (k : Int) < (d.length : Int) := by omega
      have k0 : (0 : Int) ≤ (k : Int) := by omega
      clear g1 r1
      go_enter Tryz.func89, Tryz.ntmps89
      go_wp2
      go_ret
      exact ⟨ret_i HE.out.symm, rfl⟩
    · have HE : Hid (atL d (k : Int) = 0) := atL_out (.inr (by omega))
      go_enter Tryz.func89, Tryz.ntmps89
      go_wp2
      go_ret
      exact ⟨ret_i HE.out.symm, rfl⟩

set_option maxHeartbeats 1000000 in
/-- The document's At. -/
theorem refAt_any (v : Value) (d : List Int) (r : Int) (w : World) (h1 : IsI w v d) :
    Calls Tryz.prog 74 #[v, .int .i64 r] w fun e w' => e = .returned (.int .i64 (atL d r)) ∧ w' = w := by
  obtain ⟨a1, c1, rfl, hc1, hl1, r1⟩ := h1
  by_cases h0 : r < 0
  · have HE : Hid (atL d r = 0) := atL_out (.inl h0)
    have hz : ¬ (0 : Int) ≤ r := by omega
    go_enter Tryz.func74, Tryz.ntmps74
    go_wp2
    go_ret
    exact ⟨ret_i HE.out.symm, rfl⟩
  · obtain ⟨k, rfl⟩ : ∃ k : Nat, r = (k : Int) := ⟨r.toNat, by omega⟩
    by_cases hlt : k < d.length
    · obtain ⟨b1, o1, rfl, g1⟩ := r1.resolve_left (by intro e; subst e; simp at hlt)
      have x1 := g1 k hlt
      have HE : Hid (atL d (k : Int) = d[k]) := atL_in hlt
      have k1 : (k : Int) < (d.length : Int) := by omega
      have k0 : (0 : Int) ≤ (k : Int) := by omega
      clear g1 r1
      go_enter Tryz.func74, Tryz.ntmps74
      go_wp2
      go_ret
      exact ⟨ret_i HE.out.symm, rfl⟩
    · have HE : Hid (atL d (k : Int) = 0) := atL_out (.inr (by omega))
      have k0 : (0 : Int) ≤ (k : Int) := by omega
      go_enter Tryz.func74, Tryz.ntmps74
      go_wp2
      go_ret
      exact ⟨ret_i HE.out.symm, rfl⟩

theorem take_moreI {d1 d2 : List Int} {k : Nat} (h1 : k < d1.length) (h2 : k < d2.length) (h : d1.take k = d2.take k) (e : d1[k] = d2[k]) : d1.take (k + 1) = d2.take (k + 1) := by
  rw [List.take_succ_eq_append_getElem h1, List.take_succ_eq_append_getElem h2, h, e]

set_option maxHeartbeats 1000000 in
/-- The document's Same. -/
theorem sameI_any (v1 v2 : Value) (d1 d2 : List Int) (w : World) (h1 : IsI w v1 d1) (h2 : IsI w v2 d2) :
    Calls Tryz.prog 24 #[v1, v2] w fun e w' => e = .returned (.bool (decide (d1 = d2))) ∧ Below w.heap.size w w' := by
  obtain ⟨a1, c1, rfl, hc1, hl1, r1⟩ := h1
  obtain ⟨a2, c2, rfl, hc2, hl2, r2⟩ := h2
  by_cases hl : d1.length = d2.length
  · rw [← hl]
    have HL : Hid (d1.length = d2.length) := hl
    clear hl
    have q : ((d1.length : Int) != (d1.length : Int)) = false := by simp
    go_enter Tryz.func24, Tryz.ntmps24
    go_wp2
    go_loopw [5] (fun i wr => ∃ k : Nat, k ≤ d1.length ∧ i = .int .i64 (k : Int) ∧ d1.take k = d2.take k ∧ Below w.heap.size w wr) (fun i _ => d1.length - (intOf i).toNat)
    case atStart => exact ⟨0, Nat.zero_le _, rfl, by simp, Below.refl _ _⟩
    case round =>
      obtain ⟨k, hk, rfl, ht, hb⟩ := hrel
      have HT : Hid (d1.take k = d2.take k) := ht
      clear ht
      by_cases hlt : k < d1.length
      · have hlt2 : k < d2.length := by have := HL.out; omega
        obtain ⟨b1, o1, rfl, g1⟩ := r1.resolve_left (by intro e; subst e; simp at hlt)
        obtain ⟨b2, o2, rfl, g2⟩ := r2.resolve_left (by intro e; subst e; simp at hlt2)
        have x1 := (g1.below hb) k hlt
        have x2 := (g2.below hb) k hlt2
        have k1 : (k : Int) < (d1.length : Int) := by omega
        have k0 : (0 : Int) ≤ (k : Int) := by omega
        by_cases hx : d1[k] = d2[k]
        · have HM : Hid (d1.take (k + 1) = d2.take (k + 1)) := take_moreI hlt hlt2 HT.out hx
          rw [← hx] at x2
          have q2 : (d1[k] != d1[k]) = false := by simp
          clear hx g1 g2 r1 r2
          go_wp2
          go_quiet (fail)
          go_wp2
          go_roundw
          case rel => exact ⟨k + 1, by omega, by go_num, HM.out, below_drewN hb _⟩
          case measure => simp [intOf]; omega
        · have hne : Hid (d1 ≠ d2) := fun e => hx (by subst e; rfl)
          have q2 : (d1[k] != d2[k]) = true := by simp [hx]
          clear hx g1 g2 r1 r2
          go_wp2
          go_quiet (fail)
          go_wp2
          go_ret
          exact ⟨ret_b (by simp [hne.out]), below_drewN hb _⟩
      · have he : Hid (d1 = d2) := by
          have h := HT.out
          rw [List.take_of_length_le (by omega), List.take_of_length_le (by have := HL.out; omega)] at h
          exact h
        go_wp2
        go_ret
        exact ⟨ret_b (by simp [he.out]), hb⟩
  · have q : ((d1.length : Int) != (d2.length : Int)) = true := by simp; omega
    have hne : Hid (d1 ≠ d2) := fun e => hl (by rw [e])
    clear hl
    go_enter Tryz.func24, Tryz.ntmps24
    go_wp2
    go_ret
    exact ⟨ret_b (by simp [hne.out]), Below.refl _ _⟩

end Go.Proofs.YtlioiblpcpaejaaGreat

namespace Go.Proofs.YtlioiblpcpaejaaGreat
open Go.RowKit
set_option linter.unusedVariables false

set_option maxHeartbeats 1000000 in
theorem trim_some (ad : Addr) (c1 : Nat) (d : List Int) (w : World) (hc1 : d.length ≤ c1) (hl1 : d.length ≤ 17592186044416) (g1 : d = [] ∨ ∃ b o, some ad = some ⟨b, o, none⟩ ∧ IntsAt w b o d) :
    Calls Tryz.prog 38 #[.slice (some ad) d.length c1] w fun e w' => ∃ v', e = .returned v' ∧ OwnI w.heap.size w' v' (trimL d) ∧ Below w.heap.size w w' := by
  obtain ⟨i0, hi, hz0, hz1, hz2⟩ := info_parts infoInt
  have HG : Hid (d = [] ∨ ∃ b o, some ad = some ⟨b, o, none⟩ ∧ IntsAt w b o d) := g1
  have HN0 : Hid (∀ k j u, (cellsI (d.take k))[j]? = some u → w.cell? (ad.add j) = some u) := by
    intro k j u hj
    rcases g1 with rfl | ⟨b, o, e, g⟩
    · simp [cellsI] at hj
    · cases e
      exact (g.take k).news j u hj
  clear g1
  go_enter Tryz.func38, Tryz.ntmps38
  go_wp2
  go_loop [3] (fun i => ∃ k : Nat, k ≤ d.length ∧ i = .int .i64 (k : Int) ∧ Hid (∀ j, k ≤ j → d.getD j 0 = 0)) (fun i => (intOf i).toNat)
  case atStart => exact ⟨d.length, Nat.le_refl _, rfl, fun j h => getD_out h⟩
  case round =>
    obtain ⟨k, hk, rfl, HA⟩ := hrel
    have HL : Hid ((cellsI (d.take k)).length = k * 1) := by show _ = _; rw [cellsI_length]; simp; omega
    have HN := HN0.out k
    have HN2 : Hid (∀ j u, (cellsI (d.take k))[j]? = some u → w.cell? (ad.add j) = some u) := HN
    clear HN
    cases k with
    | zero =>
      have HE : Hid (trimL d = d.take 0) := trim_take d 0 (Nat.zero_le _) HA.out (.inl rfl)
      go_wp2_with (at_builtin; (refine wpList_append_own _ rfl _ _ 23 rfl w.heap.size 3 i0 (.int .i64 0) 1 8 Tryz.underlying23 hi hz0 hz1 hz2 rfl (by decide) _ _ _ rfl (World.ownsRow_nil _ _ _ _) ad 0 _ (cellsI (d.take 0)) rfl HL.out HN2.out (cellsI_one _) (by unfold maxLen; omega) (by omega) (Nat.le_refl _) ?_; intro v3 w3 hown' hgrow3 hnil3))
      go_ret
      exact ⟨_, rfl, by rw [HE.out]; unfold OwnI; simpa [cellsI] using hown', (Below.refl _ _).grown hgrow3 (Nat.le_refl _) (fun j e => by cases e)⟩
    | succ j =>
      obtain ⟨b1, o1, e1, g1⟩ := HG.out.resolve_left (by intro e; subst e; simp at hk)
      have x1 := g1 j (by omega)
      cases e1
      clear g1
      have k1 : (j : Int) < (d.length : Int) := by omega
      have k0 : (0 : Int) ≤ (j : Int) := by omega
      by_cases hx : d[j] = 0
      · have HM : Hid (∀ i, j ≤ i → d.getD i 0 = 0) := fun i hi => by
          rcases Nat.eq_or_lt_of_le hi with rfl | h
          · rw [getD_at (by omega)]; exact hx
          · exact HA.out i h
        rw [hx] at x1
        clear hx
        go_wp2
        go_round
        case rel => exact ⟨j, by omega, by go_num, HM⟩
        case measure => simp [intOf]
      · have HE : Hid (trimL d = d.take (j + 1)) := trim_take d (j + 1) hk HA.out (.inr (by rw [Nat.add_sub_cancel, getD_at (by omega)]; exact hx))
        have q2 : (d[j] == 0) = false := by simp [hx]
        clear hx
        go_wp2_with (at_builtin; (refine wpList_append_own _ rfl _ _ 23 rfl w.heap.size 3 i0 (.int .i64 0) 1 8 Tryz.underlying23 hi hz0 hz1 hz2 rfl (by decide) _ _ _ rfl (World.ownsRow_nil _ _ _ _) ⟨b1, o1, none⟩ (j + 1) _ (cellsI (d.take (j + 1))) rfl HL.out HN2.out (cellsI_one _) (by unfold maxLen; omega) (by omega) (Nat.le_refl _) ?_; intro v3 w3 hown' hgrow3 hnil3))
        go_ret
        refine ⟨_, rfl, ?_, (Below.refl _ _).grown hgrow3 (Nat.le_refl _) (fun j e => by cases e)⟩
        rw [HE.out]
        unfold OwnI
        rw [show (d.take (j + 1)).length = 0 + (j + 1) by simp; omega]
        simpa [cellsI] using hown'

set_option maxHeartbeats 1000000 in
theorem trim_nil0 (c1 : Nat) (w : World) :
    Calls Tryz.prog 38 #[.slice none 0 c1] w fun e w' => ∃ v', e = .returned v' ∧ OwnI w.heap.size w' v' [] ∧ Below w.heap.size w w' := by
  obtain ⟨i0, hi, hz0, hz1, hz2⟩ := info_parts infoInt
  have hcl : ∀ ty c w, (Builtin.append_ #[23, 23] ty #[.slice none 0 0, .slice none 0 c]).run Tryz.prog w = .ok (.slice none 0 0) w := fun ty c w => by
    simp [Builtin.append_, run_underlying Tryz.underlying23, sizeOf, typeInfo, hi, Builtin.lenOf, Builtin.firstCells]
  go_enter Tryz.func38, Tryz.ntmps38
  go_wp2
  go_loop [3] (fun i => i = .int .i64 0) (fun i => (intOf i).toNat)
  case atStart => rfl
  case round =>
    subst hrel
    go_wp2_with (simp only [hcl])
    go_ret
    exact ⟨_, rfl, OwnI.nil0 _ _, Below.refl _ _⟩

/-- clock.Trim. -/
theorem trim_any (v : Value) (d : List Int) (w : World) (h1 : IsI w v d) :
    Calls Tryz.prog 38 #[v] w fun e w' => ∃ v', e = .returned v' ∧ OwnI w.heap.size w' v' (trimL d) ∧ Below w.heap.size w w' := by
  obtain ⟨a1, c1, rfl, hc1, hl1, r1⟩ := h1
  cases a1 with
  | none =>
    obtain rfl : d = [] := by rcases r1 with h | ⟨b, o, h, _⟩; exact h; cases h
    exact trim_nil0 c1 w
  | some ad => exact trim_some ad c1 d w hc1 hl1 r1

end Go.Proofs.YtlioiblpcpaejaaGreat

namespace Go.Proofs.YtlioiblpcpaejaaGreat
open Go.RowKit
set_option linter.unusedVariables false

theorem zeros_more {D l : List Int} {z : Nat} (h : D ++ List.replicate z 0 = l) : D ++ List.replicate (z + 1) 0 = l ++ [0] := by
  rw [List.replicate_succ', ← List.append_assoc, h]
theorem zeros_less {D l : List Int} {z : Nat} (h : D ++ List.replicate (z + 1) 0 = l) : (D ++ [0]) ++ List.replicate z 0 = l := by
  rw [← h, List.replicate_succ]; simp
theorem zeros_len {D l : List Int} {z : Nat} (h : D ++ List.replicate z 0 = l) : D.length + z = l.length := by rw [← h]; simp

set_option maxHeartbeats 2000000 in
/-- The document's Trim. -/
theorem refTrim_any (v : Value) (d : List Int) (w : World) (h1 : IsI w v d) :
    Calls Tryz.prog 67 #[v] w fun e w' => ∃ v', e = .returned v' ∧ OwnI w.heap.size w' v' (trimL d) ∧ Below w.heap.size w w' := by
  obtain ⟨i0, hi, hz0, hz1, hz2⟩ := info_parts infoInt
  obtain ⟨a1, c1, rfl, hc1, hl1, r1⟩ := h1
  have HR : Hid (d = [] ∨ ∃ b o, a1 = some ⟨b, o, none⟩ ∧ IntsAt w b o d) := r1
  clear r1
  have HO0 : Hid (OwnI w.heap.size (w.alloc (.cells #[] 3)) (.slice (some ⟨w.heap.size, 0, none⟩) 0 0) []) := OwnI.empty w _ (Nat.le_refl _)
  have HB0 : Hid (Below w.heap.size w (w.alloc (.cells #[] 3))) := (Below.refl _ _).alloc (Nat.le_refl _) _
  go_enter Tryz.func67, Tryz.ntmps67
  go_wp2
  go_loopw [3, 4, 5] (fun out zs i wr => ∃ (k z : Nat) (D : List Int), k ≤ d.length ∧ i = .int .i64 (k : Int) ∧ zs = .int .i64 (z : Int) ∧ Hid (trimL (d.take k) = D) ∧ Hid (D ++ List.replicate z 0 = d.take k) ∧ Hid (OwnI w.heap.size wr out D) ∧ Hid (Below w.heap.size w wr)) (fun _ _ i _ => d.length - (intOf i).toNat)
  case atStart => exact ⟨0, 0, [], Nat.zero_le _, rfl, rfl, by show _ = _; simp [trimL], by show _ = _; simp, HO0, HB0⟩
  case round =>
    obtain ⟨k, z, D, hk, rfl, rfl, HT, HZ, HO, HB⟩ := hrel
    have hzl : D.length + z = k := by have := zeros_len HZ.out; rw [List.length_take] at this; omega
    have hsz := HB.out.size
    by_cases hlt : k < d.length
    · obtain ⟨b1, o1, rfl, g1⟩ := HR.out.resolve_left (by intro e; subst e; simp at hlt)
      have x1 := (g1.below HB.out) k hlt
      have HG : Hid (IntsAt w b1 o1 d) := g1
      clear g1
      have k1 : (k : Int) < (d.length : Int) := by omega
      have k0 : (0 : Int) ≤ (k : Int) := by omega
      have HTS : Hid (d.take (k + 1) = d.take k ++ [d[k]]) := List.take_succ_eq_append_getElem hlt
      obtain ⟨ao, co, e0⟩ := HO.out.form
      subst e0
      by_cases hx : d[k] = 0
      · have HM1 : Hid (trimL (d.take (k + 1)) = D) := by show _ = _; rw [HTS.out, hx, trim_zero]; exact HT.out
        have HM2 : Hid (D ++ List.replicate (z + 1) 0 = d.take (k + 1)) := by show _ = _; rw [HTS.out, hx]; exact zeros_more HZ.out
        rw [hx] at x1
        clear hx
        go_wp2
        go_roundw
        case rel => exact ⟨k + 1, z + 1, D, by omega, by go_num, by go_num, HM1, HM2, HO, HB⟩
        case measure => simp [intOf]; omega
      · have q2 : (d[k] == 0) = false := by simp [hx]
        have HM1 : Hid (trimL (d.take (k + 1)) = d.take (k + 1)) := by show _ = _; rw [HTS.out]; exact trim_keep _ _ hx
        clear hx
        go_wp2
        go_loopw [3, 4] (fun out zs wq => ∃ (y : Nat) (E : List Int), E.length + y = k ∧ zs = .int .i64 (y : Int) ∧ Hid (E ++ List.replicate y 0 = d.take k) ∧ Hid (OwnI w.heap.size wq out E) ∧ Hid (Below w.heap.size w wq)) (fun _ zs _ => (intOf zs).toNat)
        case atStart => exact ⟨z, D, hzl, rfl, HZ, HO, HB⟩
        case round =>
          obtain ⟨y, E, hy, rfl, HE, HP, HC⟩ := hrel
          have hsq := HC.out.size
          obtain ⟨ap, cp, e0⟩ := HP.out.form
          subst e0
          cases y with
          | zero =>
            have HEk : Hid (E = d.take k) := by show _ = _; have := HE.out; simpa using this
            have x2 := (HG.out.below HC.out) k hlt
            clear x1
            go_wp2_with (at_builtin; refine wpList_append_own _ rfl _ _ 23 rfl w.heap.size 3 i0 (.int .i64 0) 1 8 Tryz.underlying23 hi hz0 hz1 hz2 rfl (by decide) _ _ _ rfl (World.ownsRow.alloc HP.out _) ⟨wr.heap.size, 0, none⟩ 1 1 [.int .i64 d[k]] rfl rfl (cell_one_new _ _ _) (fun x hx => by simp at hx; subst hx; rfl) (by unfold maxLen; omega) (by omega) (by simp; omega) ?_; intro v' w3 hown' hgrow3 hnil3)
            go_roundw
            case rel =>
              have h5 : OwnI w.heap.size _ _ (E ++ [d[k]]) := OwnI.snoc hown'
              have e5 : E ++ [d[k]] = d.take (k + 1) := by rw [HTS.out, HEk.out]
              rw [e5] at h5
              exact ⟨k + 1, 0, d.take (k + 1), by omega, by go_num, by go_num, HM1, by show _ = _; simp, h5, (HC.out.alloc (by omega) _).grown hgrow3 (by simp; omega) (fun j e => HP.out.block j e)⟩
            case measure => simp [intOf]; omega
          | succ y =>
            clear x1
            go_wp2_with (at_builtin; refine wpList_append_own _ rfl _ _ 23 rfl w.heap.size 3 i0 (.int .i64 0) 1 8 Tryz.underlying23 hi hz0 hz1 hz2 rfl (by decide) _ _ _ rfl (World.ownsRow.alloc HP.out _) ⟨wr.heap.size, 0, none⟩ 1 1 [.int .i64 0] rfl rfl (cell_one_new _ _ _) (fun x hx => by simp at hx; subst hx; rfl) (by unfold maxLen; omega) (by omega) (by simp; omega) ?_; intro v' w3 hown' hgrow3 hnil3)
            go_roundw
            case rel =>
              have h5 : OwnI w.heap.size _ _ (E ++ [0]) := OwnI.snoc hown'
              exact ⟨y, E ++ [0], by simp; omega, by go_num, zeros_less HE.out, h5, (HC.out.alloc (by omega) _).grown hgrow3 (by simp; omega) (fun j e => HP.out.block j e)⟩
            case measure => simp [intOf]
    · have HE : Hid (trimL d = D) := by
        have h := HT.out
        rw [List.take_of_length_le (by omega)] at h
        exact h
      go_wp2
      go_ret
      exact ⟨_, rfl, by rw [HE.out]; exact HO.out, HB.out⟩

end Go.Proofs.YtlioiblpcpaejaaGreat

namespace Go.Proofs.YtlioiblpcpaejaaGreat
open Go.RowKit
set_option linter.unusedVariables false

def replB (r : Int) : Bool := decide (0 ≤ r ∧ r < 64)
def seenB (n : Int) : Bool := decide (0 ≤ n ∧ n ≤ 1099511627776)
def rightB (c r : Int) : Bool := decide (1 ≤ c ∧ c ≤ 1099511627776 ∧ 0 ≤ r ∧ r < 64)
def rootB (c r : Int) : Bool := decide (c = 0 ∧ r = 0)
def trashB (c r : Int) : Bool := decide (c = 0 ∧ r = 1)
def nodeB (c r : Int) : Bool := decide ((1 ≤ c ∧ c ≤ 1099511627776 ∧ 0 ≤ r ∧ r < 64) ∨ (c = 0 ∧ (r = 0 ∨ r = 1)))

theorem ret_bool {a b : Bool} (h : a = b) : Ending.returned (.bool a) = .returned (.bool b) := by rw [h]

set_option maxHeartbeats 400000 in
theorem isReplica_any (r : Int) (w : World) :
    Calls Tryz.prog 88 #[.int .i64 r] w fun e w' => e = .returned (.bool (replB r)) ∧ w' = w := by
  by_cases h0 : 0 ≤ r
  · by_cases h1 : r < 64
    all_goals
      go_enter Tryz.func88, Tryz.ntmps88
      go_wp2
      go_ret
      exact ⟨ret_bool (by unfold replB; rw [Bool.eq_iff_iff]; simp; omega), rfl⟩
  · go_enter Tryz.func88, Tryz.ntmps88
    go_wp2
    go_ret
    exact ⟨ret_bool (by unfold replB; rw [Bool.eq_iff_iff]; simp; omega), rfl⟩

set_option maxHeartbeats 400000 in
/-- ident.Right. -/
theorem right_any (c r : Int) (w : World) :
    Calls Tryz.prog 78 #[.agg #[.int .i64 c, .int .i64 r]] w fun e w' => e = .returned (.bool (rightB c r)) ∧ w' = w.alloc (.cells #[.int .i64 c, .int .i64 r] 55) := by
  by_cases h0 : 1 ≤ c
  · by_cases h1 : c ≤ 1099511627776
    · go_enter Tryz.func78, Tryz.ntmps78
      go_wp2_with (go_at_call 88; refine (isReplica_any _ _).mono ?_; rintro e w' ⟨rfl, rfl⟩)
      go_ret
      exact ⟨ret_bool (by unfold rightB replB; rw [Bool.eq_iff_iff]; simp; omega), rfl⟩
    · go_enter Tryz.func78, Tryz.ntmps78
      go_wp2
      go_ret
      exact ⟨ret_bool (by unfold rightB; rw [Bool.eq_iff_iff]; simp; omega), rfl⟩
  · go_enter Tryz.func78, Tryz.ntmps78
    go_wp2
    go_ret
    exact ⟨ret_bool (by unfold rightB; rw [Bool.eq_iff_iff]; simp; omega), rfl⟩

set_option maxHeartbeats 400000 in
theorem isRoot_any (c r : Int) (w : World) :
    Calls Tryz.prog 96 #[.agg #[.int .i64 c, .int .i64 r]] w fun e w' => e = .returned (.bool (rootB c r)) ∧ w' = w.alloc (.cells #[.int .i64 c, .int .i64 r] 55) := by
  by_cases h0 : c = 0
  · subst h0
    by_cases h1 : r = 0
    · subst h1
      go_enter Tryz.func96, Tryz.ntmps96
      go_wp2
      go_ret
      exact ⟨ret_bool (by simp [rootB]), rfl⟩
    · have h2 : (r == 0) = false := by simp; omega
      go_enter Tryz.func96, Tryz.ntmps96
      go_wp2
      go_ret
      exact ⟨ret_bool (by simp [rootB, h1]), rfl⟩
  · have h2 : (c == 0) = false := by simp; omega
    go_enter Tryz.func96, Tryz.ntmps96
    go_wp2
    go_ret
    exact ⟨ret_bool (by simp [rootB, h0]), rfl⟩

set_option maxHeartbeats 400000 in
theorem isTrash_any (c r : Int) (w : World) :
    Calls Tryz.prog 97 #[.agg #[.int .i64 c, .int .i64 r]] w fun e w' => e = .returned (.bool (trashB c r)) ∧ w' = w.alloc (.cells #[.int .i64 c, .int .i64 r] 55) := by
  by_cases h0 : c = 0
  · subst h0
    by_cases h1 : r = 1
    · subst h1
      go_enter Tryz.func97, Tryz.ntmps97
      go_wp2
      go_ret
      exact ⟨ret_bool (by simp [trashB]), rfl⟩
    · have h2 : (r == 1) = false := by simp; omega
      go_enter Tryz.func97, Tryz.ntmps97
      go_wp2
      go_ret
      exact ⟨ret_bool (by simp [trashB, h1]), rfl⟩
  · have h2 : (c == 0) = false := by simp; omega
    go_enter Tryz.func97, Tryz.ntmps97
    go_wp2
    go_ret
    exact ⟨ret_bool (by simp [trashB, h0]), rfl⟩

end Go.Proofs.YtlioiblpcpaejaaGreat

namespace Go.Proofs.YtlioiblpcpaejaaGreat
open Go.RowKit
set_option linter.unusedVariables false

set_option maxHeartbeats 400000 in
/-- The document's Right. -/
theorem refRight_any (c r : Int) (w : World) :
    Calls Tryz.prog 73 #[.agg #[.int .i64 c, .int .i64 r]] w fun e w' => e = .returned (.bool (rightB c r)) ∧ w' = w.alloc (.cells #[.int .i64 c, .int .i64 r] 55) := by
  by_cases h0 : 1 ≤ c
  · by_cases h1 : c ≤ 1099511627776
    · by_cases h2 : 0 ≤ r
      · by_cases h3 : r < 64
        all_goals
          go_enter Tryz.func73, Tryz.ntmps73
          go_wp2
          go_ret
          exact ⟨ret_bool (by unfold rightB; rw [Bool.eq_iff_iff]; simp; omega), rfl⟩
      · go_enter Tryz.func73, Tryz.ntmps73
        go_wp2
        go_ret
        exact ⟨ret_bool (by unfold rightB; rw [Bool.eq_iff_iff]; simp; omega), rfl⟩
    · go_enter Tryz.func73, Tryz.ntmps73
      go_wp2
      go_ret
      exact ⟨ret_bool (by unfold rightB; rw [Bool.eq_iff_iff]; simp; omega), rfl⟩
  · go_enter Tryz.func73, Tryz.ntmps73
    go_wp2
    go_ret
    exact ⟨ret_bool (by unfold rightB; rw [Bool.eq_iff_iff]; simp; omega), rfl⟩

set_option maxHeartbeats 400000 in
theorem node_any (c r : Int) (w : World) :
    Calls Tryz.prog 93 #[.agg #[.int .i64 c, .int .i64 r]] w fun e w' => e = .returned (.bool (nodeB c r)) ∧ Below w.heap.size w w' := by
  cases h0 : rootB c r
  · cases h1 : trashB c r
    · go_enter Tryz.func93, Tryz.ntmps93
      go_wp2_with (first
      | (go_at_call 96; refine (isRoot_any _ _ _).mono ?_; rintro e w' ⟨rfl, rfl⟩)
      | (go_at_call 97; refine (isTrash_any _ _ _).mono ?_; rintro e w' ⟨rfl, rfl⟩)
      | (go_at_call 78; refine (right_any _ _ _).mono ?_; rintro e w' ⟨rfl, rfl⟩))
      go_ret
      refine ⟨ret_bool ?_, (by repeat (first | exact Below.refl _ _ | refine Below.alloc ?_ (by first | exact Nat.le_refl _ | omega | (simp; done) | (simp; omega)) _ | refine Below.drew ?_))⟩
      unfold rootB at h0; unfold trashB at h1
      unfold nodeB rightB; rw [Bool.eq_iff_iff]; simp at h0 h1 ⊢; omega
    · go_enter Tryz.func93, Tryz.ntmps93
      go_wp2_with (first
      | (go_at_call 96; refine (isRoot_any _ _ _).mono ?_; rintro e w' ⟨rfl, rfl⟩)
      | (go_at_call 97; refine (isTrash_any _ _ _).mono ?_; rintro e w' ⟨rfl, rfl⟩)
      | (go_at_call 78; refine (right_any _ _ _).mono ?_; rintro e w' ⟨rfl, rfl⟩))
      go_ret
      refine ⟨ret_bool ?_, (by repeat (first | exact Below.refl _ _ | refine Below.alloc ?_ (by first | exact Nat.le_refl _ | omega | (simp; done) | (simp; omega)) _ | refine Below.drew ?_))⟩
      unfold trashB at h1
      unfold nodeB; rw [Bool.eq_iff_iff]; simp at h1 ⊢; omega
  · go_enter Tryz.func93, Tryz.ntmps93
    go_wp2_with (first
      | (go_at_call 96; refine (isRoot_any _ _ _).mono ?_; rintro e w' ⟨rfl, rfl⟩)
      | (go_at_call 97; refine (isTrash_any _ _ _).mono ?_; rintro e w' ⟨rfl, rfl⟩)
      | (go_at_call 78; refine (right_any _ _ _).mono ?_; rintro e w' ⟨rfl, rfl⟩))
    go_ret
    refine ⟨ret_bool ?_, (by repeat (first | exact Below.refl _ _ | refine Below.alloc ?_ (by first | exact Nat.le_refl _ | omega | (simp; done) | (simp; omega)) _ | refine Below.drew ?_))⟩
    unfold rootB at h0
    unfold nodeB; rw [Bool.eq_iff_iff]; simp at h0 ⊢; omega

set_option maxHeartbeats 400000 in
theorem refNode_any (c r : Int) (w : World) :
    Calls Tryz.prog 86 #[.agg #[.int .i64 c, .int .i64 r]] w fun e w' => e = .returned (.bool (nodeB c r)) ∧ Below w.heap.size w w' := by
  cases h0 : rightB c r
  · by_cases h1 : c = 0
    · subst h1
      by_cases h2 : r = 0
      · subst h2
        go_enter Tryz.func86, Tryz.ntmps86
        go_wp2_with (go_at_call 73; refine (refRight_any _ _ _).mono ?_; rintro e w' ⟨rfl, rfl⟩)
        go_ret
        refine ⟨ret_bool ?_, (by repeat (first | exact Below.refl _ _ | refine Below.alloc ?_ (by first | exact Nat.le_refl _ | omega | (simp; done) | (simp; omega)) _ | refine Below.drew ?_))⟩
        simp [nodeB]
      · have h3 : (r == 0) = false := by simp; omega
        by_cases h4 : r = 1
        · subst h4
          go_enter Tryz.func86, Tryz.ntmps86
          go_wp2_with (go_at_call 73; refine (refRight_any _ _ _).mono ?_; rintro e w' ⟨rfl, rfl⟩)
          go_ret
          refine ⟨ret_bool ?_, (by repeat (first | exact Below.refl _ _ | refine Below.alloc ?_ (by first | exact Nat.le_refl _ | omega | (simp; done) | (simp; omega)) _ | refine Below.drew ?_))⟩
          simp [nodeB]
        · have h5 : (r == 1) = false := by simp; omega
          go_enter Tryz.func86, Tryz.ntmps86
          go_wp2_with (go_at_call 73; refine (refRight_any _ _ _).mono ?_; rintro e w' ⟨rfl, rfl⟩)
          go_ret
          refine ⟨ret_bool ?_, (by repeat (first | exact Below.refl _ _ | refine Below.alloc ?_ (by first | exact Nat.le_refl _ | omega | (simp; done) | (simp; omega)) _ | refine Below.drew ?_))⟩
          simp [nodeB, h2, h4]
    · have h3 : (c == 0) = false := by simp; omega
      go_enter Tryz.func86, Tryz.ntmps86
      go_wp2_with (go_at_call 73; refine (refRight_any _ _ _).mono ?_; rintro e w' ⟨rfl, rfl⟩)
      go_ret
      refine ⟨ret_bool ?_, (by repeat (first | exact Below.refl _ _ | refine Below.alloc ?_ (by first | exact Nat.le_refl _ | omega | (simp; done) | (simp; omega)) _ | refine Below.drew ?_))⟩
      unfold rightB at h0; unfold nodeB; rw [Bool.eq_iff_iff]; simp at h0 ⊢; omega
  · go_enter Tryz.func86, Tryz.ntmps86
    go_wp2_with (go_at_call 73; refine (refRight_any _ _ _).mono ?_; rintro e w' ⟨rfl, rfl⟩)
    go_ret
    refine ⟨ret_bool ?_, (by repeat (first | exact Below.refl _ _ | refine Below.alloc ?_ (by first | exact Nat.le_refl _ | omega | (simp; done) | (simp; omega)) _ | refine Below.drew ?_))⟩
    unfold rightB at h0; unfold nodeB; rw [Bool.eq_iff_iff]; simp at h0 ⊢; omega

end Go.Proofs.YtlioiblpcpaejaaGreat

namespace Go.Proofs.YtlioiblpcpaejaaGreat
open Go.RowKit
set_option linter.unusedVariables false

def cmpI (a b : Int) : Int := if a < b then -1 else if b < a then 1 else 0
def cmpS (c r c2 r2 : Int) : Int := if c < c2 then -1 else if c2 < c then 1 else if r < r2 then -1 else if r2 < r then 1 else 0
def lessS (c r c2 r2 : Int) : Bool := decide (c < c2 ∨ c = c2 ∧ r < r2)
theorem ret_int {a b : Int} (h : a = b) : Ending.returned (.int .i64 a) = .returned (.int .i64 b) := by rw [h]
theorem cmpI_lt {a b : Int} (h : a < b) : cmpI a b = -1 := by simp [cmpI, h]
theorem cmpI_gt {a b : Int} (h : b < a) : cmpI a b = 1 := by unfold cmpI; rw [if_neg (by omega), if_pos h]
theorem cmpI_eq (a : Int) : cmpI a a = 0 := by simp [cmpI]

set_option maxHeartbeats 400000 in
theorem cmp_any (a b : Int) (w : World) :
    Calls Tryz.prog 101 #[.int .i64 a, .int .i64 b] w fun e w' => e = .returned (.int .i64 (cmpI a b)) ∧ w' = w := by
  by_cases h0 : a < b
  · go_enter Tryz.func101, Tryz.ntmps101
    go_wp2
    go_ret
    exact ⟨ret_int (cmpI_lt h0).symm, rfl⟩
  · by_cases h1 : b < a
    · go_enter Tryz.func101, Tryz.ntmps101
      go_wp2
      go_ret
      exact ⟨ret_int (cmpI_gt h1).symm, rfl⟩
    · obtain rfl : a = b := by omega
      go_enter Tryz.func101, Tryz.ntmps101
      go_wp2
      go_ret
      exact ⟨ret_int (cmpI_eq a).symm, rfl⟩

set_option maxHeartbeats 400000 in
theorem compare_any (c r c2 r2 : Int) (w : World) :
    Calls Tryz.prog 98 #[.agg #[.int .i64 c, .int .i64 r], .agg #[.int .i64 c2, .int .i64 r2]] w fun e w' => e = .returned (.int .i64 (cmpS c r c2 r2)) ∧ Below w.heap.size w w' := by
  by_cases h0 : c < c2
  · have e0 : cmpI c c2 = -1 := cmpI_lt h0
    go_enter Tryz.func98, Tryz.ntmps98
    go_wp2_with (go_at_call 101; refine (cmp_any _ _ _).mono ?_; rintro e w' ⟨rfl, rfl⟩)
    go_ret
    exact ⟨ret_int (by simp [cmpS, h0]), (by repeat (first | exact Below.refl _ _ | refine Below.alloc ?_ (by first | exact Nat.le_refl _ | omega | (simp; done) | (simp; omega)) _ | refine Below.drew ?_))⟩
  · by_cases h1 : c2 < c
    · have e0 : cmpI c c2 = 1 := cmpI_gt h1
      go_enter Tryz.func98, Tryz.ntmps98
      go_wp2_with (go_at_call 101; refine (cmp_any _ _ _).mono ?_; rintro e w' ⟨rfl, rfl⟩)
      go_ret
      exact ⟨ret_int (by unfold cmpS; rw [if_neg (by omega), if_pos h1]), (by repeat (first | exact Below.refl _ _ | refine Below.alloc ?_ (by first | exact Nat.le_refl _ | omega | (simp; done) | (simp; omega)) _ | refine Below.drew ?_))⟩
    · obtain rfl : c = c2 := by omega
      have e0 : cmpI c c = 0 := cmpI_eq c
      go_enter Tryz.func98, Tryz.ntmps98
      go_wp2_with (go_at_call 101; refine (cmp_any _ _ _).mono ?_; rintro e w' ⟨rfl, rfl⟩)
      go_ret
      exact ⟨ret_int (by simp [cmpS, cmpI]), (by repeat (first | exact Below.refl _ _ | refine Below.alloc ?_ (by first | exact Nat.le_refl _ | omega | (simp; done) | (simp; omega)) _ | refine Below.drew ?_))⟩

theorem lessS_cmp (c r c2 r2 : Int) : decide (cmpS c r c2 r2 < 0) = lessS c r c2 r2 := by
  unfold cmpS lessS
  rw [Bool.eq_iff_iff]
  simp only [decide_eq_true_eq]
  split <;> (try split) <;> (try split) <;> (try split) <;> omega

set_option maxHeartbeats 400000 in
theorem less_any (c r c2 r2 : Int) (w : World) :
    Calls Tryz.prog 94 #[.agg #[.int .i64 c, .int .i64 r], .agg #[.int .i64 c2, .int .i64 r2]] w fun e w' => e = .returned (.bool (lessS c r c2 r2)) ∧ Below w.heap.size w w' := by
  have e0 := lessS_cmp c r c2 r2
  go_enter Tryz.func94, Tryz.ntmps94
  go_wp2_with fail
  refine (compare_any _ _ _ _ _).mono ?_
  rintro e w1 ⟨rfl, hb⟩
  go_wp2
  go_ret
  refine ⟨ret_bool ?_, ?_⟩
  · first | exact e0 | rfl
  · exact (((Below.refl _ w).alloc (Nat.le_refl _) _).alloc (by simp) _).trans (hb.mono (by simp; omega))

end Go.Proofs.YtlioiblpcpaejaaGreat

namespace Go.Proofs.YtlioiblpcpaejaaGreat
open Go.RowKit

/-- Of one boxed stamp: its two cells, and all below. -/
def Kept1 (w0 : World) (c r : Int) (w : World) : Prop :=
  w.cell? ⟨w0.heap.size, 0, none⟩ = some (.int .i64 c) ∧ w.cell? ⟨w0.heap.size, 1, none⟩ = some (.int .i64 r) ∧ w0.heap.size < w.heap.size ∧ Below w0.heap.size w0 w
theorem Kept1.start (w0 : World) (c r : Int) : Kept1 w0 c r (w0.alloc (.cells #[.int .i64 c, .int .i64 r] 55)).drew :=
  ⟨by simp [go_sem], by simp [go_sem], by simp, ((Below.refl _ _).alloc (Nat.le_refl _) _).drew⟩
/-- .. behind three calls that each box the stamp. -/
theorem Kept1.start4 (w0 : World) (c r : Int) {x y z : Array Value} : Kept1 w0 c r ((((w0.alloc (.cells #[.int .i64 c, .int .i64 r] 55)).alloc (.cells x 55)).alloc (.cells y 55)).alloc (.cells z 55)).drew :=
  ⟨by simp [go_sem], by simp [go_sem], by simp; omega, (((((Below.refl _ _).alloc (Nat.le_refl _) _).alloc (by simp) _).alloc (by simp; omega) _).alloc (by simp; omega) _).drew⟩
theorem Kept1.step {w0 : World} {c r : Int} {W w' : World} (h : Kept1 w0 c r W) (hb : Below W.heap.size W w') : Kept1 w0 c r w' :=
  ⟨(hb.cell (p := ⟨w0.heap.size, 0, none⟩) h.2.2.1).trans h.1, (hb.cell (p := ⟨w0.heap.size, 1, none⟩) h.2.2.1).trans h.2.1, Nat.lt_of_lt_of_le h.2.2.1 hb.size, h.2.2.2.trans (hb.mono (Nat.le_of_lt h.2.2.1))⟩

/-- Of two boxed stamps. -/
def Kept2 (w0 : World) (c r c2 r2 : Int) (w : World) : Prop :=
  (w.cell? ⟨w0.heap.size, 0, none⟩ = some (.int .i64 c) ∧ w.cell? ⟨w0.heap.size, 1, none⟩ = some (.int .i64 r) ∧ w.cell? ⟨w0.heap.size + 1, 0, none⟩ = some (.int .i64 c2) ∧ w.cell? ⟨w0.heap.size + 1, 1, none⟩ = some (.int .i64 r2)) ∧ w0.heap.size + 1 < w.heap.size ∧ Below w0.heap.size w0 w
theorem Kept2.start (w0 : World) (c r c2 r2 : Int) : Kept2 w0 c r c2 r2 ((w0.alloc (.cells #[.int .i64 c, .int .i64 r] 55)).alloc (.cells #[.int .i64 c2, .int .i64 r2] 55)).drew :=
  ⟨⟨by simp [go_sem], by simp [go_sem], by simp [go_sem], by simp [go_sem]⟩, by simp, (((Below.refl _ _).alloc (Nat.le_refl _) _).alloc (by simp) _).drew⟩
theorem Kept2.step {w0 : World} {c r c2 r2 : Int} {W w' : World} (h : Kept2 w0 c r c2 r2 W) (hb : Below W.heap.size W w') : Kept2 w0 c r c2 r2 w' := by
  obtain ⟨⟨h1, h2, h3, h4⟩, hs, hw⟩ := h
  exact ⟨⟨(hb.cell (p := ⟨w0.heap.size, 0, none⟩) (by show w0.heap.size < _; omega)).trans h1, (hb.cell (p := ⟨w0.heap.size, 1, none⟩) (by show w0.heap.size < _; omega)).trans h2,
    (hb.cell (p := ⟨w0.heap.size + 1, 0, none⟩) hs).trans h3, (hb.cell (p := ⟨w0.heap.size + 1, 1, none⟩) hs).trans h4⟩, Nat.lt_of_lt_of_le hs hb.size, hw.trans (hb.mono (by omega))⟩

end Go.Proofs.YtlioiblpcpaejaaGreat
