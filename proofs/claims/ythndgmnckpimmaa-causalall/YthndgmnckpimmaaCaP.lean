/- Which changes come behind a change that is ready: plain. -/
import Derived.Test.YthndgmnckpimmaaCaE
namespace Go.Proofs.Ythndgmnckpimmaa
open Go.RowKit
set_option linter.unusedVariables false
set_option linter.unusedSimpArgs false

def notAt (x y : Ch) : Bool := !(isOwn x.ar x.seq y)
theorem notAt_iff (x y : Ch) : notAt x y = true ↔ ¬ (y.ar = x.ar ∧ y.seq = x.seq) := by unfold notAt isOwn; rw [Bool.not_eq_true', decide_eq_false_iff_not]
/-- No two stand at one place. -/
def Plc (L : List Ch) : Prop := L.Pairwise fun x y => ¬ (x.ar = y.ar ∧ x.seq = y.seq)
/-- What comes, one by one, of those that are held, and what stays. -/
def runL : Nat → List Int → List Ch → List Ch × List Ch
  | 0, kn, L => ([], L)
  | n + 1, kn, L => match L.find? (readyB kn) with
    | none => ([], L)
    | some x => (x :: (runL n (tickR kn x.ar) (L.filter (notAt x))).1, (runL n (tickR kn x.ar) (L.filter (notAt x))).2)
theorem runL_none {kn : List Int} {L : List Ch} (h : L.find? (readyB kn) = none) (n : Nat) : runL n kn L = ([], L) := by
  cases n with
  | zero => rfl
  | succ n => unfold runL; rw [h]
theorem runL_some {kn : List Int} {L : List Ch} {x : Ch} (h : L.find? (readyB kn) = some x) (n : Nat) : runL (n + 1) kn L = (x :: (runL n (tickR kn x.ar) (L.filter (notAt x))).1, (runL n (tickR kn x.ar) (L.filter (notAt x))).2) := by
  conv => lhs; unfold runL
  rw [h]
theorem find_filter {H : List Ch} {p q : Ch → Bool} (h : ∀ x ∈ H, p x = false → q x = false) : (H.filter p).find? q = H.find? q := by
  induction H with
  | nil => rfl
  | cons x t ih =>
    have ih := ih fun y hy => h y (List.mem_cons_of_mem _ hy)
    have hx := h x (List.mem_cons_self ..)
    rw [List.filter_cons]
    cases hp : p x with
    | true =>
      simp only [if_true, List.find?_cons]
      cases q x <;> simp [ih]
    | false =>
      rw [if_neg (by simp), ih, List.find?_cons, hx hp]
theorem Plc.sub {L M : List Ch} (h : Plc L) (hs : M.Sublist L) : Plc M := List.Pairwise.sublist hs h
theorem Plc.perm {L M : List Ch} (h : Plc L) (hp : L.Perm M) : Plc M := (hp.pairwise_iff (fun {x y} h e => h ⟨e.1.symm, e.2.symm⟩)).1 h
theorem Plc.inj {L : List Ch} (h : Plc L) {x y : Ch} (hx : x ∈ L) (hy : y ∈ L) (e : x.ar = y.ar ∧ x.seq = y.seq) : x = y := by
  induction L with
  | nil => simp at hx
  | cons z t ih =>
    unfold Plc at h
    rw [List.pairwise_cons] at h
    rcases List.mem_cons.1 hx with rfl | hx'
    · rcases List.mem_cons.1 hy with rfl | hy'
      · rfl
      · exact absurd e (h.1 y hy')
    · rcases List.mem_cons.1 hy with rfl | hy'
      · exact absurd ⟨e.1.symm, e.2.symm⟩ (h.1 x hx')
      · exact ih h.2 hx' hy'
theorem Plc.take {L : List Ch} (h : Plc L) {x : Ch} (hx : x ∈ L) : L.Perm (x :: L.filter (notAt x)) := by
  induction L with
  | nil => simp at hx
  | cons z t ih =>
    have h0 := h
    unfold Plc at h
    rw [List.pairwise_cons] at h
    rcases List.mem_cons.1 hx with rfl | hx'
    · have e1 : notAt x x = false := by simp [notAt, isOwn]
      have e2 : t.filter (notAt x) = t := List.filter_eq_self.2 fun y hy => (notAt_iff x y).2 fun e => h.1 y hy ⟨e.1.symm, e.2.symm⟩
      rw [List.filter_cons, e1, e2]
      exact List.Perm.refl _
    · have e1 : notAt x z = true := (notAt_iff x z).2 (h.1 x hx')
      rw [List.filter_cons, if_pos e1]
      exact ((ih h.2 hx').cons z).trans (List.Perm.swap x z _)
theorem ready_seq {kn : List Int} {x : Ch} (h : readyB kn x = true) : x.seq = atL kn x.ar + 1 ∧ underB x.deps kn = true := by
  unfold readyB at h
  simpa using h
theorem ready_not {kn : List Int} {x : Ch} (h : withinB x kn = true) : readyB kn x = false := by
  cases hr : readyB kn x with
  | false => rfl
  | true =>
    have h1 := (ready_seq hr).1
    unfold withinB at h
    simp at h
    omega
theorem tick_ready {kn : List Int} {x : Ch} (hk : OkC kn) (hc : checkCh x = 0) (h : readyB kn x = true) : tickE kn x.ar = 0 ∧ OkC (tickR kn x.ar) ∧ ∀ r : Int, atL (tickR kn x.ar) r = if r = x.ar then atL kn r + 1 else atL kn r := by
  have h1 := (ready_seq h).1
  have hr := right_of hc
  have hck : checkL kn = 0 := (checkL_ok kn).2 hk
  obtain ⟨k, ek⟩ : ∃ k : Nat, x.ar = (k : Int) := ⟨x.ar.toNat, by omega⟩
  have hk64 : k < 64 := by omega
  have hne : ¬ atL kn x.ar = 1099511627776 := by omega
  have e0 : tickE kn x.ar = 0 := tickE_ok hck (by omega) hne
  rw [ek] at e0 h1 ⊢
  have e1 : tickR kn (k : Int) = tickL kn k := tickR_ok e0
  have e2 : tickL kn k = trimL (tickTo kn k 64) := (tickL_64 hk.1 hk64).symm
  have hg : ∀ i, (tickL kn k).getD i 0 = if i = k then kn.getD i 0 + 1 else kn.getD i 0 := fun i => by
    rw [e2, trim_getD, tickTo_getD]
    split
    · rfl
    · rw [if_neg (by omega), getD_out (by have := hk.1; omega)]
  rw [atL_nat] at h1
  refine ⟨e0, ?_, fun r => ?_⟩
  · rw [e1]
    refine okC_of _ ?_ fun i => ?_
    · have := tickR_len kn (k : Int); rw [e1] at this; exact this
    · rw [hg]
      have := hk.getD i
      split
      · rename_i e; subst e; omega
      · exact this
  · rw [e1]
    unfold atL
    by_cases h0 : 0 ≤ r
    · rw [if_pos h0, if_pos h0, hg]
      by_cases e : r = (k : Int)
      · rw [if_pos e, if_pos (by omega)]
      · rw [if_neg e, if_neg (by omega)]
    · rw [if_neg h0, if_neg h0, if_neg (by omega)]
theorem within_tick {kn : List Int} {x y : Ch} (hk : OkC kn) (hc : checkCh x = 0) (h : readyB kn x = true) (hy : withinB y kn = true) : withinB y (tickR kn x.ar) = true := by
  have h1 := (tick_ready hk hc h).2.2 y.ar
  unfold withinB at *
  simp only [decide_eq_true_eq] at *
  rw [h1]
  split <;> omega
theorem within_own {kn : List Int} {x : Ch} (hk : OkC kn) (hc : checkCh x = 0) (h : readyB kn x = true) : withinB x (tickR kn x.ar) = true := by
  have h1 := (tick_ready hk hc h).2.2 x.ar
  have h2 := (ready_seq h).1
  unfold withinB
  rw [h1, if_pos rfl]
  simp only [decide_eq_true_eq]
  omega
/-- Where the release stands: the clock, what has come, what stays (those of H that p keeps), what is still to do. -/
structure RunS (kn1 : List Int) (H : List Ch) (kn : List Int) (O : List Ch) (p : Ch → Bool) (n : Nat) : Prop where
  ok : OkC kn
  eq : runL H.length kn1 H = (O ++ (runL n kn (H.filter p)).1, (runL n kn (H.filter p)).2)
  out : ∀ x ∈ H, p x = false → withinB x kn = true
  le : (H.filter p).length ≤ n
theorem filter_all (H : List Ch) : H.filter (fun _ => true) = H := List.filter_eq_self.2 fun _ _ => rfl
theorem RunS.start {kn : List Int} {H : List Ch} (hk : OkC kn) : RunS kn H kn [] (fun _ => true) H.length :=
  ⟨hk, by rw [filter_all]; rfl, fun x _ h => (by cases h), by rw [filter_all]; exact Nat.le_refl _⟩
theorem RunS.find {kn1 : List Int} {H : List Ch} {kn : List Int} {O : List Ch} {p : Ch → Bool} {n : Nat} (h : RunS kn1 H kn O p n) : (H.filter p).find? (readyB kn) = H.find? (readyB kn) :=
  find_filter fun x hx hp => ready_not (h.out x hx hp)
theorem RunS.done {kn1 : List Int} {H : List Ch} {kn : List Int} {O : List Ch} {p : Ch → Bool} {n : Nat} (h : RunS kn1 H kn O p n) (hf : H.find? (readyB kn) = none) : runL H.length kn1 H = (O, H.filter p) := by
  have := runL_none (h.find.trans hf) n
  rw [h.eq, this]
  simp
theorem RunS.step {kn1 : List Int} {H : List Ch} {kn : List Int} {O : List Ch} {p : Ch → Bool} {n : Nat} (h : RunS kn1 H kn O p n) (hp : Plc H) (hc : ∀ x ∈ H, checkCh x = 0) {x : Ch} (hf : H.find? (readyB kn) = some x) :
    (x ∈ H.filter p) ∧ ∃ n', RunS kn1 H (tickR kn x.ar) (O ++ [x]) (fun y => p y && notAt x y) n' ∧ (H.filter p).Perm (x :: H.filter fun y => p y && notAt x y) := by
  have hf2 : (H.filter p).find? (readyB kn) = some x := h.find.trans hf
  have hr : readyB kn x = true := by have := List.find?_some hf; simpa using this
  have hxH : x ∈ H := List.mem_of_find?_eq_some hf
  have hxL : x ∈ H.filter p := List.mem_of_find?_eq_some hf2
  have hpl : Plc (H.filter p) := hp.sub List.filter_sublist
  have hperm := hpl.take hxL
  have hff : (H.filter p).filter (notAt x) = H.filter fun y => p y && notAt x y := by
    rw [List.filter_filter]
    congr 1
    funext y
    rw [Bool.and_comm]
  rw [hff] at hperm
  have hl := hperm.length_eq
  simp only [List.length_cons] at hl
  obtain ⟨n', rfl⟩ : ∃ n', n = n' + 1 := ⟨n - 1, by have := h.le; omega⟩
  refine ⟨hxL, n', ⟨(tick_ready h.ok (hc x hxH) hr).2.1, ?_, fun y hy hn => ?_, by have := h.le; omega⟩, hperm⟩
  · rw [h.eq, runL_some hf2 n', hff]
    simp
  · simp only [Bool.and_eq_false_iff] at hn
    rcases hn with hn | hn
    · exact within_tick h.ok (hc x hxH) hr (h.out y hy hn)
    · have : y = x := hp.inj hy hxH (by
        refine Classical.byContradiction fun h2 => ?_
        have := (notAt_iff x y).2 h2
        rw [hn] at this
        cases this)
      subst this
      exact within_own h.ok (hc y hxH) hr
/-- Two lists in order that hold the same are one. -/
theorem srtC_ext {L M : List Ch} (hL : SrtC L) (hM : SrtC M) (hp : L.Perm M) : L = M :=
  List.Perm.eq_of_pairwise (le := ltC) (fun a b _ _ h1 h2 => by exfalso; unfold ltC at *; omega) hL hM hp
theorem SrtC.filter {L : List Ch} (h : SrtC L) (p : Ch → Bool) : SrtC (L.filter p) := List.Pairwise.filter _ h

end Go.Proofs.Ythndgmnckpimmaa
