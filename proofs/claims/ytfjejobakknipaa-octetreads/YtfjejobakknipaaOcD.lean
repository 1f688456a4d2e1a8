/- What a reader's methods do; and those of a nil reader. -/
import Derived.Test.YtfjejobakknipaaOcB
import Derived.Test.YtfjejobakknipaaOcC
namespace Go.Proofs.Ytfjejobakknipaa
open Go.RowKit
set_option linter.unusedVariables false

theorem heap_set_same {w : World} {g i : Nat} {c : Array Value} {t : TypeId} (h : w.heap[g]? = some (.cells c t)) (m : Nat) (u : Value) : ((w.drewN m).setCell ⟨g, i, none⟩ u).heap[g]? = some (.cells (c.setIfInBounds i u) t) := by
  simp [World.setCell, Array.getElem?_modify, h]
theorem grownBy.set (w : World) (m g i : Nat) {u : Value} : w.grownBy ((w.drewN m).setCell ⟨g, i, none⟩ u) (some g) :=
  ⟨rfl, rfl, rfl, by simp [World.setCell], fun j _ hne => (Below.heap_setCell (w.drewN m) ⟨g, i, none⟩ u j (fun e => hne (by rw [e]))).trans rfl⟩
theorem RdIs.setAt {L : Nat} {w : World} {g : Nat} {p : List UInt8} {k : Nat} {y : Int} (h : RdIs L w g p k y) (m k2 : Nat) (h2 : k2 ≤ p.length) : RdIs L ((w.drewN m).setCell ⟨g, 1, none⟩ (.int .i64 (k2 : Int))) g p k2 y := by
  obtain ⟨a, cap, h1, h3, h4, h5, h6, h7⟩ := h
  refine ⟨a, cap, heap_set_same h1 m _, h3, h4, h5, h2, h7.imp id fun ⟨b, o, e, hb, hne, hB⟩ => ⟨b, o, e, hb, hne, hB.block ?_⟩⟩
  exact (Below.heap_setCell (w.drewN m) ⟨g, 1, none⟩ _ b hne).trans rfl
theorem RdIs.setWhy {L : Nat} {w : World} {g : Nat} {p : List UInt8} {k : Nat} {y : Int} (h : RdIs L w g p k y) (m : Nat) (y2 : Int) : RdIs L ((w.drewN m).setCell ⟨g, 2, none⟩ (.int .i64 y2)) g p k y2 := by
  obtain ⟨a, cap, h1, h3, h4, h5, h6, h7⟩ := h
  refine ⟨a, cap, heap_set_same h1 m _, h3, h4, h5, h6, h7.imp id fun ⟨b, o, e, hb, hne, hB⟩ => ⟨b, o, e, hb, hne, hB.block ?_⟩⟩
  exact (Below.heap_setCell (w.drewN m) ⟨g, 2, none⟩ _ b hne).trans rfl
theorem RdIs.free {L : Nat} {w : World} {g : Nat} {p : List UInt8} {k : Nat} {y : Int} (h : RdIs L w g p k y) (i : Nat) : w.frozen? ⟨g, i, none⟩ = false := by
  obtain ⟨a, cap, h1, _⟩ := h
  unfold World.frozen?
  rw [h1]
  simp
theorem RdIs.cells {L : Nat} {w : World} {g : Nat} {p : List UInt8} {k : Nat} {y : Int} (h : RdIs L w g p k y) :
    ∃ a cap, w.cell? ⟨g, 0, none⟩ = some (.slice a p.length cap) ∧ w.cell? ⟨g, 1, none⟩ = some (.int .i64 (k : Int)) ∧ w.cell? ⟨g, 2, none⟩ = some (.int .i64 y) ∧ p.length ≤ cap ∧ (p = [] ∨ ∃ b o, a = some ⟨b, o, none⟩ ∧ BytesAt w b o p) := by
  obtain ⟨a, cap, h1, h2, h3, h4, h5, h6⟩ := h
  refine ⟨a, cap, ?_, ?_, ?_, h3, h6.imp id fun ⟨b, o, e, _, _, hb⟩ => ⟨b, o, e, hb⟩⟩ <;> simp [World.cell?, h1]

set_option maxRecDepth 100000 in
set_option maxHeartbeats 1000000 in
theorem at_any (L g : Nat) (p : List UInt8) (k : Nat) (y : Int) (w : World) (h : RdIs L w g p k y) :
    Calls Try.prog 23 #[.pointer (some ⟨g, 0, none⟩)] w fun e w' => e = .returned (.int .i64 (k : Int)) ∧ w' = w := by
  obtain ⟨a, cap, c0, c1, c2, hc, r⟩ := h.cells
  clear r h
  go_enter Try.func23, Try.ntmps23
  go_wp2
  go_ret
  exact ⟨rfl, rfl⟩

set_option maxRecDepth 100000 in
set_option maxHeartbeats 1000000 in
theorem readsNothing_any (L g : Nat) (p : List UInt8) (k : Nat) (y : Int) (w : World) (h : RdIs L w g p k y) :
    Calls Try.prog 30 #[.pointer (some ⟨g, 0, none⟩)] w fun e w' => e = .returned (.bool (y != 0)) ∧ w' = w := by
  obtain ⟨a, cap, c0, c1, c2, hc, r⟩ := h.cells
  clear r h
  go_enter Try.func30, Try.ntmps30
  go_wp2
  go_ret
  exact ⟨rfl, rfl⟩

set_option maxRecDepth 100000 in
set_option maxHeartbeats 1000000 in
theorem left_any (L g : Nat) (p : List UInt8) (k : Nat) (y : Int) (w : World) (h : RdIs L w g p k y) :
    Calls Try.prog 24 #[.pointer (some ⟨g, 0, none⟩)] w fun e w' => e = .returned (.int .i64 ((p.length : Int) - (k : Int))) ∧ ∃ m, w' = w.drewN m := by
  obtain ⟨hk, hl⟩ := h.at_le
  obtain ⟨a, cap, c0, c1, c2, hc, r⟩ := h.cells
  clear r h
  go_enter Try.func24, Try.ntmps24
  go_wp2
  go_quiet (fail)
  go_wp2
  go_ret
  exact ⟨rfl, _, rfl⟩

/-- The error that Why tells, and its place. -/
def badL (k : Nat) (y : Int) : Int := if y = 0 then 0 else (k : Int)

set_option maxRecDepth 100000 in
set_option maxHeartbeats 1000000 in
theorem why_any (L g : Nat) (p : List UInt8) (k : Nat) (y : Int) (w : World) (h : RdIs L w g p k y) :
    Calls Try.prog 22 #[.pointer (some ⟨g, 0, none⟩)] w fun e w' => e = .returned (.tuple #[.int .i64 y, .int .i64 (badL k y)]) ∧ ∃ m, w' = w.drewN m := by
  obtain ⟨hk, hl⟩ := h.at_le
  obtain ⟨a, cap, c0, c1, c2, hc, r⟩ := h.cells
  clear r h
  by_cases hy : y = 0
  · subst hy
    have HE : Hid (badL k 0 = 0) := rfl
    go_enter Try.func22, Try.ntmps22
    go_wp2
    go_ret2
    exact ⟨by rw [HE.out]; rfl, 0, rfl⟩
  · have HE : Hid (badL k y = k) := by show _ = _; unfold badL; rw [if_neg hy]
    have q : (y == 0) = false := by simp [hy]
    go_enter Try.func22, Try.ntmps22
    go_wp2
    go_quiet (fail)
    go_wp2
    go_ret2
    exact ⟨by rw [HE.out]; rfl, _, rfl⟩

/-- What Done tells. -/
def doneL (p : List UInt8) (k : Nat) (y : Int) : Int := if y = 0 then (if k < p.length then 7 else 0) else y

set_option maxRecDepth 100000 in
set_option maxHeartbeats 1000000 in
theorem done_any (L g : Nat) (p : List UInt8) (k : Nat) (y : Int) (w : World) (h : RdIs L w g p k y) :
    Calls Try.prog 25 #[.pointer (some ⟨g, 0, none⟩)] w fun e w' => e = .returned (.int .i64 (doneL p k y)) ∧ ∃ m, w' = w.drewN m := by
  obtain ⟨hk, hl⟩ := h.at_le
  have H : Hid (RdIs L w g p k y) := h
  clear h
  go_enter Try.func25, Try.ntmps25
  go_wp2_with fail
  refine (why_any L g p k y _ H.out).mono ?_
  rintro e w1 ⟨rfl, m1, rfl⟩
  by_cases hy : y = 0
  · subst hy
    have H2 : Hid (RdIs L (w.drewN m1) g p k 0) := H.out.kept fun j _ _ => rfl
    go_wp2_with fail
    refine (left_any L g p k 0 _ H2.out).mono ?_
    rintro e w2 ⟨rfl, m2, rfl⟩
    by_cases hlt : k < p.length
    · have HE : Hid (doneL p k 0 = 7) := by show _ = _; unfold doneL; simp [hlt]
      go_wp2
      go_ret
      exact ⟨ret_i HE.out.symm, _, rfl⟩
    · have HE : Hid (doneL p k 0 = 0) := by show _ = _; unfold doneL; simp [hlt]
      go_wp2
      go_ret
      exact ⟨ret_i HE.out.symm, _, rfl⟩
  · have HE : Hid (doneL p k y = y) := by show _ = _; unfold doneL; rw [if_neg hy]
    have q : (y != 0) = true := by simp [hy]
    clear hy
    go_wp2
    go_ret
    exact ⟨ret_i HE.out.symm, _, rfl⟩

/-- What a Count makes of a reader that stands at k with the error y: the answer, the place, the error. -/
def rdC (p : List UInt8) (k : Nat) (y most : Int) : Int × Nat × Int :=
  if y = 0 then
    match cntL (p.drop k) most with
    | (n, s, e) => if e = 0 then ((n : Int), k + s, 0) else (0, k, e)
  else (0, k, y)
theorem cntL_len {p : List UInt8} {most : Int} : (cntL p most).2.1 ≤ p.length ∧ (cntL p most).1 < 9223372036854775808 ∧ (cntL p most).2.1 ≤ 9 := by
  unfold cntL
  cases h : numL p with
  | none => simp
  | some x =>
    obtain ⟨n, k⟩ := x
    have := numL_le h
    simp only
    split <;> simp <;> omega

/-- Where a slice expression's answer begins. -/
def cutA (a : Option Addr) (cap k : Nat) : Option Addr :=
  match a with
  | none => none
  | some ad => if cap = k then some ad else some (ad.add k)
/-- The bytes from the place on, as a slice expression makes them. -/
theorem RdIs.rest {L : Nat} {w : World} {g : Nat} {p : List UInt8} {k : Nat} {y : Int} (h : RdIs L w g p k y) (a : Option Addr) (cap : Nat) (hc : w.cell? ⟨g, 0, none⟩ = some (.slice a p.length cap)) :
    (a = none → p = [] ∧ k = 0) ∧ ∀ m, IsB (w.drewN m) (.slice (cutA a cap k) (p.length - k) (cap - k)) (p.drop k) := by
  obtain ⟨hk, hl⟩ := h.at_le
  obtain ⟨a', cap', c0, c1, c2, hcap, r⟩ := h.cells
  rw [c0] at hc
  injection hc with hc
  injection hc with e1 _ e2
  subst e1 e2
  refine ⟨fun e => ?_, fun m => ⟨_, cap' - k, by rw [List.length_drop], by rw [List.length_drop]; omega, by rw [List.length_drop]; omega, ?_⟩⟩
  · rcases r with rfl | ⟨b, o, rfl, _⟩
    · exact ⟨rfl, by simpa using hk⟩
    · cases e
  · rcases r with rfl | ⟨b, o, rfl, hb⟩
    · exact .inl (by simp)
    · by_cases hk2 : cap' = k
      · exact .inl (List.drop_of_length_le (by omega))
      · exact .inr ⟨b, o + k, by simp only [cutA]; rw [if_neg hk2, Addr.add_lit], (hb.drop k).block rfl⟩
theorem IsB.drewN {w : World} {v : Value} {d : List UInt8} (h : IsB w v d) (m : Nat) : IsB (w.drewN m) v d := h.below ⟨rfl, rfl, rfl, Nat.le_refl _, fun _ _ => rfl⟩

set_option maxRecDepth 100000 in
set_option maxHeartbeats 2000000 in
theorem count_rd (L g : Nat) (p : List UInt8) (k : Nat) (y most : Int) (w : World) (h : RdIs L w g p k y) :
    Calls Try.prog 19 #[.pointer (some ⟨g, 0, none⟩), .int .i64 most] w fun e w' => e = .returned (.int .i64 (rdC p k y most).1) ∧ RdIs L w' g p (rdC p k y most).2.1 (rdC p k y most).2.2 ∧ w.grownBy w' (some g) := by
  obtain ⟨hk, hl⟩ := h.at_le
  obtain ⟨a, cap, c0, c1, c2, hc, r⟩ := h.cells
  have H : Hid (RdIs L w g p k y) := h
  by_cases hy : y = 0
  · subst hy
    obtain ⟨n, s, e, hq⟩ : ∃ n s e, cntL (p.drop k) most = (n, s, e) := ⟨_, _, _, rfl⟩
    have hq2 := cntL_len (p := p.drop k) (most := most)
    rw [hq, List.length_drop] at hq2
    simp only at hq2
    obtain ⟨hs1, hn1, hs2⟩ := hq2
    have HRD : Hid (rdC p k 0 most = if e = 0 then ((n : Int), k + s, 0) else (0, k, e)) := by show _ = _; unfold rdC; rw [if_pos rfl, hq]
    have HC : Hid (∀ v m, IsB (w.drewN m) v (p.drop k) → Calls Try.prog 31 #[v, .int .i64 most] (w.drewN m) fun e' w' => e' = .returned (.tuple #[.int .i64 (n : Int), .int .i64 (s : Int), .int .i64 e]) ∧ w' = w.drewN m) := fun v m hb => by
      have := count_any v (p.drop k) most (w.drewN m) hb
      rw [hq] at this
      exact this
    have HR0 := h.rest a cap c0
    have HR : Hid ((a = none → p = [] ∧ k = 0) ∧ ∀ m, IsB (w.drewN m) (.slice (cutA a cap k) (p.length - k) (cap - k)) (p.drop k)) := HR0
    have k1 : (k : Int) ≤ (cap : Int) := by omega
    have f1 := h.free 1
    have f2 := h.free 2
    clear r h HR0 hq hn1
    cases a with
    | none =>
      obtain ⟨rfl, rfl⟩ := HR.out.1 rfl
      obtain rfl : s = 0 := by simpa using hs1
      go_enter Try.func19, Try.ntmps19
      go_wp2_with (go_at_call 30; refine (readsNothing_any L g _ _ 0 _ H.out).mono ?_; rintro e w' ⟨rfl, hw⟩; replace hw := hw.symm; subst hw)
      go_quiet ((go_at_call 31; exact Calls.quiet_of_same (HC.out _ _ (IsB.non _))))
      by_cases he : e = 0
      · subst he
        have HE : Hid (rdC [] 0 0 most = ((n : Int), 0 + 0, 0)) := HRD.out
        go_wp2
        go_ret
        refine ⟨ret_i (by rw [HE.out]), ?_, ?_⟩
        · rw [HE.out]
          exact H.out.setAt nq 0 (by first | omega | simp)
        · exact grownBy.set _ _ _ _
      · have HE : Hid (rdC [] 0 0 most = (0, 0, e)) := by have h := HRD.out; rw [if_neg he] at h; exact h
        have q : (e != 0) = true := by simp [he]
        clear he
        go_wp2
        go_ret
        refine ⟨ret_i (by rw [HE.out]), ?_, ?_⟩
        · rw [HE.out]
          exact H.out.setWhy nq e
        · exact grownBy.set _ _ _ _
    | some ad =>
      go_enter Try.func19, Try.ntmps19
      go_wp2_with (go_at_call 30; refine (readsNothing_any L g _ _ 0 _ H.out).mono ?_; rintro e w' ⟨rfl, hw⟩; replace hw := hw.symm; subst hw)
      go_quiet ((go_at_call 31; exact Calls.quiet_of_same (HC.out _ _ (HR.out.2 _))))
      generalize (if cap = k then some ad else some (ad.add k)) = zz
      by_cases he : e = 0
      · subst he
        have HE : Hid (rdC p k 0 most = ((n : Int), k + s, 0)) := HRD.out
        go_wp2
        go_ret
        refine ⟨ret_i (by rw [HE.out]), ?_, ?_⟩
        · rw [HE.out]
          exact H.out.setAt nq (k + s) (by first | omega | simp)
        · exact grownBy.set _ _ _ _
      · have HE : Hid (rdC p k 0 most = (0, k, e)) := by have h := HRD.out; rw [if_neg he] at h; exact h
        have q : (e != 0) = true := by simp [he]
        clear he
        go_wp2
        go_ret
        refine ⟨ret_i (by rw [HE.out]), ?_, ?_⟩
        · rw [HE.out]
          exact H.out.setWhy nq e
        · exact grownBy.set _ _ _ _
  · have HE : Hid (rdC p k y most = (0, k, y)) := by show _ = _; unfold rdC; rw [if_neg hy]
    have q : (y != 0) = true := by simp [hy]
    clear hy r h
    go_enter Try.func19, Try.ntmps19
    go_wp2_with (go_at_call 30; refine (readsNothing_any L g _ _ y _ H.out).mono ?_; rintro e w' ⟨rfl, hw⟩; replace hw := hw.symm; subst hw)
    go_ret
    refine ⟨ret_i (by rw [HE.out]), ?_, grownBy.same _ _⟩
    rw [HE.out]
    exact H.out

set_option maxRecDepth 100000 in
set_option maxHeartbeats 2000000 in
theorem num_rd (L g : Nat) (p : List UInt8) (k : Nat) (y : Int) (w : World) (h : RdIs L w g p k y) :
    Calls Try.prog 17 #[.pointer (some ⟨g, 0, none⟩)] w fun e w' => e = .returned (.int .i64 (rdC p k y 9223372036854775807).1) ∧ RdIs L w' g p (rdC p k y 9223372036854775807).2.1 (rdC p k y 9223372036854775807).2.2 ∧ w.grownBy w' (some g) := by
  have H : Hid (RdIs L w g p k y) := h
  clear h
  go_enter Try.func17, Try.ntmps17
  go_wp2_with fail
  refine (count_rd L g p k y _ _ H.out).mono ?_
  rintro e w1 ⟨rfl, hr, hg⟩
  go_wp2
  go_ret
  exact ⟨rfl, hr, hg⟩

end Go.Proofs.Ytfjejobakknipaa
