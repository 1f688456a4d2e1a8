/- The document's reading of a frame's load, told against readF. -/
import Derived.Test.YtlioiblpcpaejaaGreatXWdH
namespace Go.Proofs.YtlioiblpcpaejaaGreat
set_option linter.unusedVariables false

theorem mem_flatten_len {α : Type} {l : List α} {e : α → List UInt8} {a : α} (h : a ∈ l) : (e a).length ≤ ((l.map e).flatten).length := by
  induction l with
  | nil => simp at h
  | cons b l ih =>
    simp only [List.map_cons, List.flatten_cons, List.length_append]
    rcases List.mem_cons.1 h with rfl | h
    · omega
    · have := ih h; omega
/-- A text of at most so many bytes. -/
def txtR (m : Int) : Rdr (List UInt8) := fun p k y => rdT p k y m
abbrev FrD := Int × List Int × Int × List (List UInt8)
def frD (m : Int) : Rdr FrD := seqR numR fun _ => seqR numsR fun _ => seqR numR fun _ => countOf (txtR m) 64
theorem frD_full {f : Fr} (h : checkFr f = 0) : frD ((loadFr f).length : Int) (loadFr f) 0 0 = ((f.from_, f.clock, flagI f.more, f.changes.map bytesCh), (loadFr f).length, 0) := by
  have hl := loadFr_len h
  have e := unFr_enc h
  have hT : Strict (txtR ((loadFr f).length : Int)) textP (fun x => (x.length : Int) ≤ ((loadFr f).length : Int)) := rdT_strict _ (by omega)
  have o := unFr_ok h
  have ha : ∀ c ∈ f.changes, (bytesCh c).length ≤ (loadFr f).length := fun c hc => by
    have h1 := mem_flatten_len (e := fun c => textP (bytesCh c)) hc
    have h2 : (chsP f.changes).length ≤ (loadFr f).length := by
      rw [← e]; unfold frE unFr; simp only [List.length_append]; omega
    unfold chsP at h2
    have h3 : (bytesCh c).length ≤ (textP (bytesCh c)).length := by unfold textP; rw [List.length_append]; omega
    omega
  have s := numR_strict.seq fun _ => numsR_strict.seq fun _ => numR_strict.seq fun _ => hT.count 64 (by decide)
  have f1 := s.full (loadFr f) 0 (f.from_, f.clock, flagI f.more, f.changes.map bytesCh) [] ?_ ?_
  · have e3 : (putI f.from_ ++ (listP f.clock ++ (putI (flagI f.more) ++ (putL (f.changes.map bytesCh).length ++ ((f.changes.map bytesCh).map textP).flatten)))) = loadFr f := by
      rw [← e]; unfold frE unFr chsP flagI; simp [List.map_map]; rfl
    simp only [Nat.zero_add, e3] at f1
    exact f1
  · refine ⟨o.1, o.2.1, ?_, ?_, ?_⟩
    · show Lays (flagI f.more); unfold Lays flagI; split <;> omega
    · show (f.changes.map bytesCh).length ≤ 64; rw [List.length_map]; exact o.2.2.2.1
    · intro t ht
      obtain ⟨c, hc, rfl⟩ := List.mem_map.1 ht
      have := ha c hc
      omega
  · show List.drop 0 (loadFr f) = _
    rw [List.drop_zero, List.append_nil, ← e]
    unfold frE unFr chsP flagI
    simp [List.map_map]
    rfl
theorem many_prefix {α : Type} (f : Rdr α) (p : List UInt8) (k : Nat) (y : Int) {j n : Nat} (h : j ≤ n) : (manyOf f j p k y).1 = (manyOf f n p k y).1.take j := by
  induction n with
  | zero => obtain rfl : j = 0 := by omega
            rfl
  | succ n ih =>
    rcases Nat.lt_or_eq_of_le h with h | rfl
    · rw [ih (by omega)]
      show _ = ((manyOf f n p k y).1 ++ [_]).take j
      rw [List.take_append_of_le_length (by rw [manyOf_len]; omega)]
    · rw [List.take_of_length_le (by rw [manyOf_len]; omega)]
theorem many_mem {α : Type} (f : Rdr α) (p : List UInt8) (k : Nat) (y : Int) {j n : Nat} (h : j < n) : (f p (manyOf f j p k y).2.1 (manyOf f j p k y).2.2).1 ∈ (manyOf f n p k y).1 := by
  have h1 : (f p (manyOf f j p k y).2.1 (manyOf f j p k y).2.2).1 ∈ (manyOf f (j + 1) p k y).1 := by
    show _ ∈ (manyOf f j p k y).1 ++ [_]; simp
  rw [many_prefix f p k y (j := j + 1) (n := n) (by omega)] at h1
  exact List.mem_of_mem_take h1
/-- What the document reads of a right frame's load. -/
theorem doc_read {load : List UInt8} {fm : Int} {k0 : Nat} {y0 : Int} {cl : List Int} {k1 : Nat} {y1 mo : Int} {k2 : Nat} {y2 : Int} {n k3 : Nat} {y3 : Int} (e0 : numR load 0 0 = (fm, k0, y0)) (e1 : numsR load k0 y0 = (cl, k1, y1)) (e2 : numR load k1 y1 = (mo, k2, y2)) (e3 : rdC load k2 y2 64 = ((n : Int), k3, y3)) {f : Fr} (h : checkFr f = 0) (hl : loadFr f = load) :
    fm = f.from_ ∧ cl = f.clock ∧ mo = flagI f.more ∧ (manyOf (txtR (load.length : Int)) n load k3 y3).1 = f.changes.map bytesCh := by
  subst hl
  have h0 := frD_full h
  unfold frD seqR countOf at h0
  simp only [e0, e1, e2, e3, Int.toNat_natCast] at h0
  have h1 := (Prod.mk.inj h0).1
  obtain ⟨a, h1⟩ := Prod.mk.inj h1
  obtain ⟨b, h1⟩ := Prod.mk.inj h1
  obtain ⟨c, d⟩ := Prod.mk.inj h1
  exact ⟨a, b, c, d⟩
theorem readF_bad {p : List UInt8} (ho : (openL p).2.2 = 0) (hno : ∀ f, checkFr f = 0 → loadFr f = (openL p).2.1 → False) : readF p = (Fr.none, 2) := by
  unfold readF
  rw [if_pos ho]
  rcases loadF_cases 65536 ((openL p).1 : Int) (openL p).2.1 with h | h
  · obtain ⟨a, b, c⟩ := loadF_sound (by decide) (by decide) h
    exact (hno _ a b).elim
  · exact h
theorem doc_bad {p load : List UInt8} (ho : (openL p).2.2 = 0) (hL : (openL p).2.1 = load) {fm : Int} {k0 : Nat} {y0 : Int} {cl : List Int} {k1 : Nat} {y1 mo : Int} {k2 : Nat} {y2 : Int} {n k3 : Nat} {y3 : Int} (e0 : numR load 0 0 = (fm, k0, y0)) (e1 : numsR load k0 y0 = (cl, k1, y1)) (e2 : numR load k1 y1 = (mo, k2, y2)) (e3 : rdC load k2 y2 64 = ((n : Int), k3, y3))
    {j : Nat} (hj : j < n) {t : List UInt8} {k5 : Nat} {y5 : Int} (ht : rdT load (manyOf (txtR (load.length : Int)) j load k3 y3).2.1 (manyOf (txtR (load.length : Int)) j load k3 y3).2.2 (load.length : Int) = (t, k5, y5)) (hb : (getF t).2 ≠ 0) : readF p = (Fr.none, 2) := by
  refine readF_bad ho fun f h hl => ?_
  rw [hL] at hl
  obtain ⟨_, _, _, d⟩ := doc_read e0 e1 e2 e3 h hl
  have m := many_mem (txtR (load.length : Int)) load k3 y3 hj
  rw [d] at m
  obtain ⟨c, hc, e⟩ := List.mem_map.1 m
  have e' : bytesCh c = t := by rw [e]; show (rdT load (manyOf (txtR (load.length : Int)) j load k3 y3).2.1 (manyOf (txtR (load.length : Int)) j load k3 y3).2.2 (load.length : Int)).1 = t; rw [ht]
  rw [← e', getF_full ((checkFr_ok h).2.2.2.2.2 c hc)] at hb
  exact hb rfl
theorem doc_only {p load : List UInt8} (hL : (openL p).2.1 = load) {fm : Int} {k0 : Nat} {y0 : Int} {cl : List Int} {k1 : Nat} {y1 mo : Int} {k2 : Nat} {y2 : Int} {n k3 : Nat} {y3 : Int} (e0 : numR load 0 0 = (fm, k0, y0)) (e1 : numsR load k0 y0 = (cl, k1, y1)) (e2 : numR load k1 y1 = (mo, k2, y2)) (e3 : rdC load k2 y2 64 = ((n : Int), k3, y3)) :
    ∀ f, checkFr f = 0 → f.kind = ((openL p).1 : Int) → loadFr f = (openL p).2.1 → (⟨((openL p).1 : Int), fm, cl, decide (mo = 1), (manyOf (txtR (load.length : Int)) n load k3 y3).1.map fun t => (getF t).1⟩ : Fr) = f := by
  intro f h hk hl
  rw [hL] at hl
  obtain ⟨a, b, c, d⟩ := doc_read e0 e1 e2 e3 h hl
  obtain ⟨fk, ff, fc, fmo, fch⟩ := f
  simp only at a b c d hk
  have hch := (checkFr_ok h).2.2.2.2.2
  simp only at hch
  rw [a, b, c, d, hk]
  congr 1
  · unfold flagI; cases fmo <;> simp
  · rw [List.map_map]
    have : ∀ l : List Ch, (∀ c ∈ l, checkCh c = 0) → l.map ((fun t => (getF t).1) ∘ bytesCh) = l := by
      intro l hl
      induction l with
      | nil => rfl
      | cons c l ih =>
        rw [List.map_cons, ih (fun d hd => hl d (by simp [hd]))]
        show (getF (bytesCh c)).1 :: l = c :: l
        rw [getF_full (hl c (by simp))]
    exact this _ hch
theorem read_cases {p : List UInt8} (ho : (openL p).2.2 = 0) {g : Fr} (hg : ∀ f, checkFr f = 0 → f.kind = ((openL p).1 : Int) → loadFr f = (openL p).2.1 → g = f) : ((writeF g).2 = 0 ∧ (writeF g).1 = p ∧ readF p = (g, 0)) ∨ ((writeF g).2 = 0 ∧ (writeF g).1 ≠ p ∧ readF p = (Fr.none, 2)) ∨ ((writeF g).2 ≠ 0 ∧ readF p = (Fr.none, 2)) := by
  have e := readF_of ho hg
  unfold writeF
  by_cases hc : checkFr g = 0
  · rw [if_pos hc]
    by_cases hb : frameL g.kind.toNat (loadFr g) = p
    · rw [if_pos ⟨hc, hb⟩] at e; exact .inl ⟨rfl, hb, e⟩
    · rw [if_neg (fun h => hb h.2)] at e; exact .inr (.inl ⟨rfl, hb, e⟩)
  · rw [if_neg hc]
    rw [if_neg (fun h => hc h.1)] at e
    exact .inr (.inr ⟨hc, e⟩)

end Go.Proofs.YtlioiblpcpaejaaGreat
