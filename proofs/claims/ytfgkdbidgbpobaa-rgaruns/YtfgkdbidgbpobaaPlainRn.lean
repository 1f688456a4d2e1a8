/- Two that put slots behind one slot, each one of their own behind the one ahead: in the row's order each one's stand in one piece. -/
import Derived.Test.YtfgkdbidgbpobaaPlainRh
namespace Go.Proofs.Ytfgkdbidgbpobaa
set_option linter.unusedVariables false
set_option linter.unusedSimpArgs false

/-- The stamps of a run, its slots. -/
def chT (rep c : Int) (j : Nat) : St := (c + (j : Int), rep)
def chS (rep c : Int) (fr : St) (j : Nat) : Sl := ⟨chT rep c j, if j = 0 then fr else chT rep c (j - 1)⟩
def chn (rep c : Int) (fr : St) (n : Nat) : List Sl := (List.range n).map (chS rep c fr)
def chF (rep c : Int) (fr : St) (i n : Nat) : List Sl := (List.range' i (n - i)).map (chS rep c fr)
theorem chn_succ (rep c : Int) (fr : St) (n : Nat) : chn rep c fr (n + 1) = chn rep c fr n ++ [chS rep c fr n] := by simp [chn, List.range_succ]
theorem chn_length (rep c : Int) (fr : St) (n : Nat) : (chn rep c fr n).length = n := by simp [chn]
theorem chF_zero (rep c : Int) (fr : St) (n : Nat) : chF rep c fr 0 n = chn rep c fr n := by simp [chF, chn, List.range_eq_range']
theorem chF_cons (rep c : Int) (fr : St) {i n : Nat} (h : i < n) : chF rep c fr i n = chS rep c fr i :: chF rep c fr (i + 1) n := by
  unfold chF
  rw [show n - i = (n - (i + 1)) + 1 by omega, List.range'_succ, List.map_cons]
theorem chF_length (rep c : Int) (fr : St) (i n : Nat) : (chF rep c fr i n).length = n - i := by simp [chF]
theorem mem_chn {rep c : Int} {fr : St} {n : Nat} {s : Sl} : s ∈ chn rep c fr n ↔ ∃ j, j < n ∧ s = chS rep c fr j := by
  simp only [chn, List.mem_map, List.mem_range]
  constructor
  · rintro ⟨j, h, e⟩; exact ⟨j, h, e.symm⟩
  · rintro ⟨j, h, e⟩; exact ⟨j, h, e.symm⟩
theorem chT_inj {rep c : Int} {i j : Nat} (h : chT rep c i = chT rep c j) : i = j := by
  have := congrArg Prod.fst h
  simp only [chT] at this
  omega
/-- So many of a replica stand one right behind the other, rising. -/
def RunOk (l : List St) (rep : Int) (n : Nat) : Prop := ∃ (r t : List St) (c : Int), l = r ++ (List.range n).map (chT rep c) ++ t ∧ (∀ x ∈ r, x.2 ≠ rep) ∧ (∀ x ∈ t, x.2 ≠ rep)
/-- What the rest of the row must be. -/
structure Apt (rep c : Int) (fr : St) (rest : List Sl) : Prop where
  ts : ∀ s ∈ rest, s.ts.2 ≠ rep
  af : ∀ s ∈ rest, s.af.2 = rep → s.af.1 < c
  fr : fr.2 = rep → fr.1 < c
  one : 1 ≤ c
theorem ch_kid {M rest : List Sl} {rep c : Int} {fr : St} {n : Nat} (p : M.Perm (chn rep c fr n ++ rest)) (a : Apt rep c fr rest) (i : Nat) : kidL M (chT rep c i) = if i + 1 < n then [chT rep c (i + 1)] else [] := by
  have hz : chT rep c i ≠ z0 := fun e => by
    have := congrArg Prod.fst e
    have h1 := a.one
    simp only [chT, z0] at this
    omega
  unfold kidL
  rw [if_neg hz]
  have key : ∀ q, (∃ s ∈ M, s.af = chT rep c i ∧ s.ts = q) ↔ i + 1 < n ∧ q = chT rep c (i + 1) := by
    intro q
    constructor
    · rintro ⟨s, hs, e1, rfl⟩
      rcases List.mem_append.1 (p.mem_iff.1 hs) with h | h
      · obtain ⟨j, hj, rfl⟩ := mem_chn.1 h
        unfold chS at e1
        simp only at e1
        split at e1
        · have h2 := a.fr (by rw [e1]; rfl)
          rw [e1] at h2
          simp only [chT] at h2
          omega
        · have := chT_inj e1
          have e3 : j = i + 1 := by omega
          subst e3
          exact ⟨hj, rfl⟩
      · have h2 := a.af s h (by rw [e1]; rfl)
        rw [e1] at h2
        simp only [chT] at h2
        omega
    · rintro ⟨h, rfl⟩
      refine ⟨chS rep c fr (i + 1), p.mem_iff.2 (List.mem_append_left _ (mem_chn.2 ⟨i + 1, h, rfl⟩)), ?_, rfl⟩
      unfold chS
      simp
  split
  · rename_i h
    refine behL_eq (List.pairwise_singleton _ _) fun q => ?_
    rw [key q]
    simp [h]
  · rename_i h
    refine behL_eq List.Pairwise.nil fun q => ?_
    rw [key q]
    simp [h]
theorem ch_has {M rest : List Sl} {rep c : Int} {fr : St} {n : Nat} (p : M.Perm (chn rep c fr n ++ rest)) {i : Nat} (hi : i < n) : hasL M (chT rep c i) = true := hasL_iff.2 ⟨chS rep c fr i, p.mem_iff.2 (List.mem_append_left _ (mem_chn.2 ⟨i, hi, rfl⟩)), rfl⟩
theorem ch_bel {M rest : List Sl} {rep c : Int} {fr : St} {n : Nat} (h : GoodL M) (p : M.Perm (chn rep c fr n ++ rest)) (a : Apt rep c fr rest) : ∀ (m i : Nat), i + 1 + m = n → bel M (chT rep c i) = (List.range' (i + 1) m).map (chT rep c)
  | 0, i, e => by
    rw [bel_eq h (.inr (ch_has p (by omega))), ch_kid p a i, if_neg (by omega)]
    simp
  | m + 1, i, e => by
    rw [bel_eq h (.inr (ch_has p (by omega))), ch_kid p a i, if_pos (by omega), List.range'_succ]
    simp only [List.reverse_cons, List.reverse_nil, List.nil_append, List.flatMap_cons, List.flatMap_nil, List.append_nil, List.map_cons]
    rw [ch_bel h p a m (i + 1) (by omega)]
theorem ch_run {M rest : List Sl} {rep c : Int} {fr : St} {n : Nat} (h : GoodL M) (p : M.Perm (chn rep c fr n ++ rest)) (a : Apt rep c fr rest) : RunOk (ordL M) rep n := by
  have own : ∀ x ∈ ordL M, x.2 = rep → ∃ j, j < n ∧ x = chT rep c j := by
    intro x hx e
    obtain ⟨s, hs, rfl⟩ := hasL_iff.1 ((mem_ord h).1 hx)
    rcases List.mem_append.1 (p.mem_iff.1 hs) with h1 | h1
    · obtain ⟨j, hj, rfl⟩ := mem_chn.1 h1
      exact ⟨j, hj, rfl⟩
    · exact absurd e (a.ts s h1)
  cases n with
  | zero =>
    refine ⟨ordL M, [], 0, by simp, fun x hx e => ?_, fun x hx => by cases hx⟩
    obtain ⟨j, hj, _⟩ := own x hx e
    omega
  | succ n =>
    obtain ⟨r, t, e⟩ := bel_split h (a := chT rep c 0) z0 (.inl rfl) ((mem_ord h).2 (ch_has p (by omega)))
    rw [ch_bel h p a n 0 (by omega)] at e
    have e2 : chT rep c 0 :: (List.range' (0 + 1) n).map (chT rep c) = (List.range (n + 1)).map (chT rep c) := by
      rw [List.range_eq_range', List.range'_succ, List.map_cons]
    rw [e2] at e
    have hn := ord_nodup h
    change ordL M = _ at e
    rw [e] at hn
    rw [List.append_assoc, List.nodup_append] at hn
    obtain ⟨_, h2, h3⟩ := hn
    rw [List.nodup_append] at h2
    refine ⟨r, t, c, e, fun x hx er => ?_, fun x hx er => ?_⟩
    · obtain ⟨j, hj, ej⟩ := own x (by rw [e]; simp [hx]) er
      exact h3 x hx x (List.mem_append_left _ (List.mem_map.2 ⟨j, List.mem_range.2 hj, ej.symm⟩)) rfl
    · obtain ⟨j, hj, ej⟩ := own x (by rw [e]; simp [hx]) er
      exact h2.2.2 x (List.mem_map.2 ⟨j, List.mem_range.2 hj, ej.symm⟩) x hx rfl
/-- What comes ahead of a place, and what stands there. -/
def runN (r n i : Nat) : Nat := min (i - r) n
theorem run_at {l r t : List St} {rep c : Int} {n : Nat} (e : l = r ++ (List.range n).map (chT rep c) ++ t) (hr : ∀ x ∈ r, x.2 ≠ rep) (ht : ∀ x ∈ t, x.2 ≠ rep) {i : Nat} (hi : i < l.length) :
    (l[i].2 ≠ rep ∧ runN r.length n (i + 1) = runN r.length n i) ∨ (r.length ≤ i ∧ i < r.length + n ∧ l[i] = chT rep c (i - r.length) ∧ runN r.length n i = i - r.length ∧ runN r.length n (i + 1) = i - r.length + 1) := by
  have hg : l[i]? = some l[i] := List.getElem?_eq_getElem hi
  obtain ⟨y, ey⟩ : ∃ y, y = l[i] := ⟨_, rfl⟩
  rw [← ey] at hg ⊢
  clear ey
  by_cases h1 : i < r.length
  · refine .inl ⟨hr _ ?_, by unfold runN; omega⟩
    rw [e, List.append_assoc, List.getElem?_append_left h1] at hg
    exact List.mem_of_getElem? hg
  · by_cases h2 : i < r.length + n
    · refine .inr ⟨by omega, h2, ?_, by unfold runN; omega, by unfold runN; omega⟩
      rw [e, List.append_assoc, List.getElem?_append_right (by omega), List.getElem?_append_left (by simp; omega)] at hg
      simp only [List.getElem?_map, List.getElem?_range (show i - r.length < n by omega), Option.map_some] at hg
      exact (Option.some.inj hg).symm
    · refine .inl ⟨ht _ ?_, by unfold runN; omega⟩
      rw [e, List.getElem?_append_right (by simp; omega)] at hg
      exact List.mem_of_getElem? hg
theorem run_end {l r t : List St} {rep c : Int} {n : Nat} (e : l = r ++ (List.range n).map (chT rep c) ++ t) : runN r.length n l.length = n := by
  have := congrArg List.length e
  simp at this
  unfold runN
  omega
/-- What an Add of the next slot of a run is told. -/
theorem ch_ok {w : List Sl} {rep c last : Int} {fr : St} (hc : last < c) (hl : 0 ≤ last) (hr : 0 ≤ rep ∧ rep < 64) (hf : fr = z0 ∨ ∃ s ∈ w, s.ts = fr) (hg : GoodL w) (hw : ∀ s ∈ w, s.ts.1 ≤ last) {j : Nat} (hj : c + (j : Int) ≤ 1099511627776) : okS (chS rep c fr j) = true := by
  unfold okS chS
  simp only [Bool.and_eq_true, decide_eq_true_eq, Bool.or_eq_true]
  refine ⟨⟨by simp only [chT]; omega, by simp only [chT]; omega, hr.1, hr.2⟩, ?_⟩
  split
  · rename_i e
    rcases hf with hf | ⟨s, hs, e2⟩
    · exact .inl hf
    · right
      have h1 := hg.ok s hs
      unfold okS at h1
      simp only [Bool.and_eq_true, decide_eq_true_eq] at h1
      have h2 := h1.1
      have h3 := hw s hs
      rw [e2] at h2 h3
      refine ⟨h2, ?_⟩
      rw [ltS_iff]
      simp only [chT]
      omega
  · rename_i e
    right
    refine ⟨⟨by simp only [chT]; omega, by simp only [chT]; omega, hr.1, hr.2⟩, ?_⟩
    rw [ltS_iff]
    simp only [chT]
    omega
/-- What stands while they come: those that were there, so many of the one, so many of the other. -/
structure TwoP (w : List Sl) (last c d : Int) (fr : St) (i j : Nat) (L : List Sl) : Prop where
  perm : L.Perm (w ++ chn 20 c fr i ++ chn 21 d fr j)
  good : GoodL L
  wgood : GoodL w
  le : ∀ s ∈ w, s.ts.1 ≤ last
  no : ∀ s ∈ w, s.ts.2 ≠ 20 ∧ s.ts.2 ≠ 21
  l0 : 0 ≤ last
  lc : last < c
  ld : last < d
  from_ : fr = z0 ∨ ∃ s ∈ w, s.ts = fr
section
variable {w L : List Sl} {last c d : Int} {fr : St} {i j : Nat}
theorem TwoP.start (hg : GoodL w) (le : ∀ s ∈ w, s.ts.1 ≤ last) (no : ∀ s ∈ w, s.ts.2 ≠ 20 ∧ s.ts.2 ≠ 21) (l0 : 0 ≤ last) (lc : last < c) (ld : last < d) (hf : fr = z0 ∨ ∃ s ∈ w, s.ts = fr) : TwoP w last c d fr 0 0 w :=
  ⟨by simp [chn], hg, hg, le, no, l0, lc, ld, hf⟩
theorem TwoP.len (h : TwoP w last c d fr i j L) : L.length = w.length + i + j := by rw [h.perm.length_eq]; simp [chn_length]; omega
theorem TwoP.one (h : TwoP w last c d fr i j L) (hb : c + (i : Int) ≤ 1099511627776) : addC L (chS 20 c fr i) = 0 ∧ TwoP w last c d fr (i + 1) j (addL L (chS 20 c fr i)) := by
  have ho := ch_ok (rep := 20) h.lc h.l0 (by omega) h.from_ h.wgood h.le hb
  have hn : hasL L (chS 20 c fr i).ts = false := hasL_no.2 fun s hs e => by
    rcases List.mem_append.1 (h.perm.mem_iff.1 hs) with h1 | h1
    · rcases List.mem_append.1 h1 with h2 | h2
      · exact (h.no s h2).1 (by rw [e]; rfl)
      · obtain ⟨k, hk, rfl⟩ := mem_chn.1 h2
        have := chT_inj (show chT 20 c k = chT 20 c i from e)
        omega
    · obtain ⟨k, hk, rfl⟩ := mem_chn.1 h1
      have := congrArg Prod.snd (show chT 21 d k = chT 20 c i from e)
      simp [chT] at this
  refine ⟨by unfold addC; rw [ho, hn]; simp, ?_⟩
  have e : addL L (chS 20 c fr i) = L ++ [chS 20 c fr i] := by unfold addL; rw [if_pos ⟨ho, hn⟩]
  rw [e]
  refine ⟨?_, h.good.snoc ho hn, h.wgood, h.le, h.no, h.l0, h.lc, h.ld, h.from_⟩
  rw [chn_succ]
  refine (h.perm.append_right _).trans ?_
  simp only [List.append_assoc]
  exact List.Perm.append_left _ (List.Perm.append_left _ List.perm_append_comm)
theorem TwoP.other (h : TwoP w last c d fr i j L) (hb : d + (j : Int) ≤ 1099511627776) : addC L (chS 21 d fr j) = 0 ∧ TwoP w last c d fr i (j + 1) (addL L (chS 21 d fr j)) := by
  have ho := ch_ok (rep := 21) h.ld h.l0 (by omega) h.from_ h.wgood h.le hb
  have hn : hasL L (chS 21 d fr j).ts = false := hasL_no.2 fun s hs e => by
    rcases List.mem_append.1 (h.perm.mem_iff.1 hs) with h1 | h1
    · rcases List.mem_append.1 h1 with h2 | h2
      · exact (h.no s h2).2 (by rw [e]; rfl)
      · obtain ⟨k, hk, rfl⟩ := mem_chn.1 h2
        have := congrArg Prod.snd (show chT 20 c k = chT 21 d j from e)
        simp [chT] at this
    · obtain ⟨k, hk, rfl⟩ := mem_chn.1 h1
      have := chT_inj (show chT 21 d k = chT 21 d j from e)
      omega
  refine ⟨by unfold addC; rw [ho, hn]; simp, ?_⟩
  have e : addL L (chS 21 d fr j) = L ++ [chS 21 d fr j] := by unfold addL; rw [if_pos ⟨ho, hn⟩]
  rw [e]
  refine ⟨?_, h.good.snoc ho hn, h.wgood, h.le, h.no, h.l0, h.lc, h.ld, h.from_⟩
  rw [chn_succ]
  refine (h.perm.append_right _).trans ?_
  simp only [List.append_assoc]
  exact List.Perm.refl _
theorem TwoP.frb (h : TwoP w last c d fr i j L) : fr.1 ≤ last := by
  rcases h.from_ with e | ⟨s, hs, e⟩
  · rw [e]; exact h.l0
  · rw [← e]; exact h.le s hs
theorem TwoP.afb (h : TwoP w last c d fr i j L) {s : Sl} (hs : s ∈ w) : s.af.1 ≤ last := by
  rcases okS_af (h.wgood.ok s hs) with e | e
  · rw [e]; exact h.l0
  · have h1 := h.le s hs
    rw [ltS_iff] at e
    omega
theorem TwoP.run1 (h : TwoP w last c d fr i j L) : RunOk (ordL L) 20 i := by
  refine ch_run (c := c) (fr := fr) (rest := w ++ chn 21 d fr j) h.good (h.perm.trans ?_) ⟨fun s hs => ?_, fun s hs e => ?_, fun _ => ?_, ?_⟩
  · simp only [List.append_assoc]
    rw [← List.append_assoc, ← List.append_assoc]
    exact List.Perm.append_right _ List.perm_append_comm
  · rcases List.mem_append.1 hs with h1 | h1
    · exact (h.no s h1).1
    · obtain ⟨k, hk, rfl⟩ := mem_chn.1 h1
      simp [chS, chT]
  · have hc := h.lc
    rcases List.mem_append.1 hs with h1 | h1
    · have := h.afb h1; omega
    · obtain ⟨k, hk, rfl⟩ := mem_chn.1 h1
      unfold chS at e ⊢
      simp only at e ⊢
      split at e
      · rename_i e0
        rw [if_pos e0]
        have := h.frb
        omega
      · simp [chT] at e
  · have := h.frb; have hc := h.lc; omega
  · have h0 := h.l0; have hc := h.lc; omega
theorem TwoP.run2 (h : TwoP w last c d fr i j L) : RunOk (ordL L) 21 j := by
  refine ch_run (c := d) (fr := fr) (rest := w ++ chn 20 c fr i) h.good (h.perm.trans List.perm_append_comm) ⟨fun s hs => ?_, fun s hs e => ?_, fun _ => ?_, ?_⟩
  · rcases List.mem_append.1 hs with h1 | h1
    · exact (h.no s h1).2
    · obtain ⟨k, hk, rfl⟩ := mem_chn.1 h1
      simp [chS, chT]
  · have hc := h.ld
    rcases List.mem_append.1 hs with h1 | h1
    · have := h.afb h1; omega
    · obtain ⟨k, hk, rfl⟩ := mem_chn.1 h1
      unfold chS at e ⊢
      simp only at e ⊢
      split at e
      · rename_i e0
        rw [if_pos e0]
        have := h.frb
        omega
      · simp [chT] at e
  · have := h.frb; have hc := h.ld; omega
  · have h0 := h.l0; have hc := h.ld; omega
end
/-- The greatest count so far, and whether one is of either replica. -/
def lastC (l : List Sl) : Int := l.foldl (fun m s => max m s.ts.1) 0
def their (l : List Sl) : Bool := l.foldl (fun b s => b || decide (s.ts.2 = 20) || decide (s.ts.2 = 21)) false
theorem lastC_snoc (l : List Sl) (s : Sl) : lastC (l ++ [s]) = max (lastC l) s.ts.1 := by simp [lastC]
theorem their_snoc (l : List Sl) (s : Sl) : their (l ++ [s]) = (their l || decide (s.ts.2 = 20) || decide (s.ts.2 = 21)) := by simp [their]
theorem lastF_le : ∀ (l : List Sl) (m : Int), m ≤ l.foldl (fun m s => max m s.ts.1) m ∧ ∀ s ∈ l, s.ts.1 ≤ l.foldl (fun m s => max m s.ts.1) m
  | [], m => ⟨Int.le_refl _, fun s h => by cases h⟩
  | x :: l, m => by
    have h := lastF_le l (max m x.ts.1)
    rw [List.foldl_cons]
    refine ⟨by omega, fun s hs => ?_⟩
    rcases List.mem_cons.1 hs with e | h2
    · subst e; omega
    · exact h.2 s h2
theorem lastC_le (l : List Sl) : 0 ≤ lastC l ∧ ∀ s ∈ l, s.ts.1 ≤ lastC l := lastF_le l 0
theorem theirF_no : ∀ (l : List Sl) (b : Bool), l.foldl (fun b s => b || decide (s.ts.2 = 20) || decide (s.ts.2 = 21)) b = false → b = false ∧ ∀ s ∈ l, s.ts.2 ≠ 20 ∧ s.ts.2 ≠ 21
  | [], b, h => ⟨h, fun s h => by cases h⟩
  | x :: l, b, h => by
    rw [List.foldl_cons] at h
    have h1 := theirF_no l _ h
    have h2 := h1.1
    rw [Bool.or_eq_false_iff, Bool.or_eq_false_iff] at h2
    refine ⟨h2.1.1, fun s hs => ?_⟩
    rcases List.mem_cons.1 hs with e | h3
    · subst e; exact ⟨by simpa using h2.1.2, by simpa using h2.2⟩
    · exact h1.2 s h3
theorem their_no (l : List Sl) (h : their l = false) : ∀ s ∈ l, s.ts.2 ≠ 20 ∧ s.ts.2 ≠ 21 := (theirF_no l false h).2
end Go.Proofs.Ytfgkdbidgbpobaa
