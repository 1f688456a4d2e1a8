/- The program's Check. -/
import Derived.Test.YtljmlbidbacdjabVtC
import Derived.Test.YtljmlbidbacdjabVtD
namespace Go.Proofs.Ytljmlbidbacdjab
open Go.RowKit Go.Shelf
set_option linter.unusedVariables false
set_option linter.unusedSimpArgs false

attribute [local go_sem] Oper.semAt_some

/-- Why nodes, behind ones with these keys, are not right. -/
def chkR (seen : List St) : List (Nat × VT) → Int
  | [] => 0
  | x :: r => if keyB x.1 x.2.k = false then 2 else if hasS seen x.2.k = true then 5 else if chkN x.2 ≠ 0 then chkN x.2 else chkR (seen ++ [x.2.k]) r
def Nd.p (x : Nd) : Nat × VT := (x.d, x.t)
def Nd.ky (x : Nd) : St := x.t.k
mutual
/-- A tree's nodes with how many are above each. -/
def flatD : VT → Nat → List (Nat × VT)
  | .node k tg tx a ks, d => (d, .node k tg tx a ks) :: flatDs ks (d + 1)
def flatDs : List VT → Nat → List (Nat × VT)
  | [], _ => []
  | t :: r, d => flatD t d ++ flatDs r d
end
theorem flatD_eq (t : VT) (d : Nat) : flatD t d = (d, t) :: flatDs t.ks (d + 1) := by cases t; simp only [flatD, VT.ks]
theorem flatA_p_n (w : World) : ∀ (n : Nat), (∀ t d b o, VT.sz t ≤ n → (flatA w t d b o).map Nd.p = flatD t d) ∧ (∀ l d b o, szs l ≤ n → (flatsA w l d b o).map Nd.p = flatDs l d)
  | 0 => ⟨fun t _ _ _ h => by have := t.sz_pos; omega, fun l _ _ _ h => by
      cases l with
      | nil => simp [flatsA, flatDs]
      | cons x r => have := x.sz_pos; rw [szs] at h; omega⟩
  | n + 1 => by
    have ih := flatA_p_n w n
    have h1 : ∀ t d b o, VT.sz t ≤ n + 1 → (flatA w t d b o).map Nd.p = flatD t d := fun t d b o h => by
      rw [flatA_eq, List.map_cons, ih.2 _ _ _ _ (by have := t.sz_eq; omega), flatD_eq]
      rfl
    refine ⟨h1, fun l => ?_⟩
    induction l with
    | nil => intro d b o _; simp [flatsA, flatDs]
    | cons x r ihr =>
      intro d b o h
      rw [szs] at h
      rw [flatsA, List.map_append, h1 x d b o (by omega), ihr d b (o + 6) (by omega), flatDs]
theorem flatA_p (w : World) (t : VT) (d b o : Nat) : (flatA w t d b o).map Nd.p = flatD t d := (flatA_p_n w t.sz).1 t d b o (Nat.le_refl _)
/-- What Check tells. -/
def chkT (t : VT) : Int := if 8192 < t.sz then 3 else chkR [] (flatD t 0)
theorem flatA_at_n (S : Nat → Prop) (w : World) : ∀ (n : Nat) (t : VT) (d b o : Nat), t.sz ≤ n → VAt S w t b o → S b → ∀ x ∈ flatA w t d b o, VAt S w x.t x.b x.o ∧ S x.b
  | 0, t, _, _, _, h, _, _, _, _ => by have := t.sz_pos; omega
  | n + 1, t, d, b, o, h, hv, hS, x, hx => by
    rw [flatA_eq] at hx
    rcases List.mem_cons.1 hx with rfl | hx
    · exact ⟨hv, hS⟩
    · have key : ∀ (l : List VT) (b2 o2 : Nat), (∀ i (hi : i < l.length), VAt S w l[i] b2 (o2 + i * 6) ∧ l[i].sz ≤ n) → S b2 → ∀ x ∈ flatsA w l (d + 1) b2 o2, VAt S w x.t x.b x.o ∧ S x.b := fun l => by
        induction l with
        | nil => intro _ _ _ _ x hx; simp [flatsA] at hx
        | cons y r ihr =>
          intro b2 o2 hl hS2 x hx
          rw [flatsA] at hx
          rcases List.mem_append.1 hx with hx | hx
          · have h0 := hl 0 (by simp)
            rw [Nat.zero_mul, Nat.add_zero, List.getElem_cons_zero] at h0
            exact flatA_at_n S w n y (d + 1) b2 o2 h0.2 h0.1 hS2 x hx
          · refine ihr b2 (o2 + 6) (fun i hi => ?_) hS2 x hx
            have h1 := hl (i + 1) (by simpa using hi)
            rw [List.getElem_cons_succ, show o2 + (i + 1) * 6 = o2 + 6 + i * 6 by omega] at h1
            exact h1
      by_cases hk : t.ks = []
      · rw [hk] at hx; simp [flatsA] at hx
      · obtain ⟨b2, o2, ck, ekb, hg, hlt, _, _⟩ := hv.kbo (i := 0) (by cases h9 : t.ks with | nil => exact absurd h9 hk | cons _ _ => simp)
        rw [ekb] at hx
        refine key t.ks b2 o2 (fun i hi => ?_) hg x hx
        obtain ⟨b3, o3, ck3, ekb3, _, _, _, hv3⟩ := hv.kbo hi
        rw [ekb] at ekb3
        injection ekb3 with e1 e2
        subst e1 e2
        exact ⟨hv3, by have := VT.kid hi; omega⟩
theorem flatA_at {S : Nat → Prop} {w : World} {t : VT} {d b o : Nat} (hv : VAt S w t b o) (hS : S b) : ∀ x ∈ flatA w t d b o, VAt S w x.t x.b x.o ∧ S x.b := flatA_at_n S w t.sz t d b o (Nat.le_refl _) hv hS
/-- The lengths of all texts of a tree. -/
def BnA (t : VT) : Prop := ∀ x ∈ flatD t 0, BnT x.2
def kU (_ : St) : Value := .agg #[]
theorem uSet : Try.prog.underlying 94 = some (.map 24 100) := by kernel_rfl
theorem zSet (w : World) : (zeroValue 100).run Try.prog w = .ok (.agg #[]) w := by kernel_rfl
theorem getP_has {D : List St} {s : St} : (getP id D s = none ∧ hasS D s = false) ∨ (∃ x, getP id D s = some x ∧ hasS D s = true) := by
  unfold getP hasS
  cases h : D.find? fun x => decide (id x = s) with
  | none =>
    left
    refine ⟨rfl, ?_⟩
    rw [List.find?_eq_none] at h
    rw [List.any_eq_false]
    exact fun x hx => by simpa using h x hx
  | some y =>
    right
    refine ⟨y, rfl, ?_⟩
    have h1 := List.find?_some h
    have h2 := List.mem_of_find?_eq_some h
    rw [List.any_eq_true]
    exact ⟨y, h2, by simpa using h1⟩
/-- What stands in a round of Check. -/
structure CkB (w W2 : World) (S : Nat → Prop) (rb mb : Nat) (v : Value) (D : List St) (W U : World) : Prop where
  rn : RnS w W2 S (B1 rb v 27) U
  mp : MapIs id kU U mb D
  kf : KeepsFrom W2.heap.size W U
  kn : KpN S W2.heap.size W U
  nm : (¬ S mb ∧ mb < W2.heap.size ∧ w.heap.size ≤ mb) ∧ mb ≠ rb ∧ ¬ S rb ∧ rb < W2.heap.size
section
variable {w W2 W U U' : World} {S : Nat → Prop} {rb mb : Nat} {v : Value} {D : List St}
theorem CkB.below (h : CkB w W2 S rb mb (v) (D) W U) (hb : Below U.heap.size U U') : CkB w W2 S rb mb (v) (D) W U' := ⟨h.rn.below hb, h.mp.keep (hb.block _ h.mp.lt), h.kf.trans (keepsFrom_below hb), h.kn.trans (KpN.of_below hb fun k q => Nat.lt_of_lt_of_le (h.rn.sl k q) h.rn.kp.1), h.nm⟩
theorem CkB.set (h : CkB w W2 S rb mb (v) (D) W U) (u : Value) : CkB w W2 S rb mb (u) (D) W (U.setCell ⟨rb, 0, none⟩ u) := by
  have h9 := h.rn.set (B1.at _ _ _) u
  rw [B1.set] at h9
  exact ⟨h9, h.mp.keep (RowKit.Below.heap_setCell _ _ _ _ h.nm.2.1), h.kf.trans (keepsFrom_set _ _ _), h.kn.trans (KpN.set h.nm.2.2.1 h.nm.2.2.2), h.nm⟩
theorem CkB.put (h : CkB w W2 S rb mb (v) (D) W U) {D' : List St} (hg : U.grownBy U' (some mb)) (hm : MapIs id kU U' mb D') : CkB w W2 S rb mb (v) (D') W U' := by
  refine ⟨⟨fun b u t e => ?_, h.rn.bel.grown hg h.rn.bel.size (fun j e => by cases e; exact h.nm.1.2.2), h.rn.kp.trans ⟨hg.size, fun k q => hg.block k (Nat.lt_of_lt_of_le (h.rn.sl k q) h.rn.kp.1) (fun e => by cases e; exact h.nm.1.1 q)⟩, h.rn.sl, h.rn.ns, h.rn.le⟩, hm, h.kf.trans (KeepsFrom.of_grownBy hg fun j e => by cases e; exact h.nm.1.2.1), h.kn.trans ⟨hg.size, fun k q => hg.block k ?_ (fun e => ?_)⟩, h.nm⟩
  · have h1 := h.rn.box b u t e
    refine (hg.block b (row_lt h1) (fun e2 => ?_)).trans h1
    cases e2
    unfold B1 at e
    rw [if_neg h.nm.2.1] at e
    cases e
  · rcases q with q | ⟨_, c, f, q⟩
    · exact Nat.lt_of_lt_of_le (h.rn.sl k q) h.rn.kp.1
    · exact row_lt q
  · cases e
    rcases q with q | ⟨q, _⟩
    · exact h.nm.1.1 q
    · have := h.nm.1.2.1; omega
end
theorem results_intCell2 {fn : Func} (hr : fn.results = #[.cell 2 27]) (tmps : Array Value) (R : Nat) (w : World) (b : Int) (hp : tmps.getD 2 undef = .pointer (some ⟨R, 0, none⟩)) (hc : w.cell? ⟨R, 0, none⟩ = some (.int .i64 b)) : (results fn tmps).run Try.prog w = .ok (.int .i64 b) w := by
  have hp' : tmps[2]?.getD undef = .pointer (some ⟨R, 0, none⟩) := by simpa using hp
  simp [results, hr, hp', asAddr, loadVar, isAgg, run_underlying Try.underlying27, load, go_sem]
  simp [Sem.run, hc]

end Go.Proofs.Ytljmlbidbacdjab
