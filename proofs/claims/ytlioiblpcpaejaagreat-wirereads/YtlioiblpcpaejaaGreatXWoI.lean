/- What the document's readers do: Fail, Next, Count, Text, Done. -/
import Derived.Test.YtlioiblpcpaejaaGreatXWoH
import Derived.Test.YtlioiblpcpaejaaGreatXWoSt
namespace Go.Proofs.YtlioiblpcpaejaaGreat
open Go.RowKit
set_option linter.unusedVariables false

/-- The document's reader as a value. -/
def refR (s : Value) (k : Nat) (y : Int) : Value := .agg #[s, .int .i64 (k : Int), .int .i64 y, .int .i64 (badL k y)]
/-- A block of four cells. -/
def Four (W : World) (b : Nat) (c0 c1 c2 c3 : Value) : Prop := W.heap[b]? = some (.cells #[c0, c1, c2, c3] 46)
theorem Four.facts {W : World} {b : Nat} {c0 c1 c2 c3 : Value} (h : Four W b c0 c1 c2 c3) :
    W.cell? ⟨b, 0, none⟩ = some c0 ∧ W.cell? ⟨b, 1, none⟩ = some c1 ∧ W.cell? ⟨b, 2, none⟩ = some c2 ∧ W.cell? ⟨b, 3, none⟩ = some c3 ∧ (∀ i, W.frozen? ⟨b, i, none⟩ = false) := by
  unfold Four at h
  refine ⟨?_, ?_, ?_, ?_, fun i => ?_⟩
  · simp [World.cell?, h]
  · simp [World.cell?, h]
  · simp [World.cell?, h]
  · simp [World.cell?, h]
  · simp [World.frozen?, h]
theorem Four.below {W W' : World} {B b : Nat} {c0 c1 c2 c3 : Value} (h : Four W b c0 c1 c2 c3) (hb : Below B W W') (hB : b < B) : Four W' b c0 c1 c2 c3 := by
  unfold Four at h ⊢
  rw [hb.block b hB]; exact h

theorem four_second {w w2 : World} {A : Obj} {c0 c1 c2 c3 : Value} (hb : Below ((w.alloc A).alloc (.cells #[c0, c1, c2, c3] 46)).heap.size ((w.alloc A).alloc (.cells #[c0, c1, c2, c3] 46)) w2) : Four w2 (w.heap.size + 1) c0 c1 c2 c3 :=
  Four.below (heap_alloc2_new w A _) hb (by simp)
theorem four_first {w w2 : World} {B : Obj} {c0 c1 c2 c3 : Value} (hb : Below ((w.alloc (.cells #[c0, c1, c2, c3] 46)).alloc B).heap.size ((w.alloc (.cells #[c0, c1, c2, c3] 46)).alloc B) w2) : Four w2 w.heap.size c0 c1 c2 c3 := by
  refine Four.below (W := (w.alloc (.cells #[c0, c1, c2, c3] 46)).alloc B) ?_ hb (by simp; omega)
  unfold Four
  rw [Below.heap_alloc _ _ _ (by simp)]
  exact heap_alloc_new _ _

set_option maxRecDepth 100000 in
set_option maxHeartbeats 1000000 in
theorem refFail_any (c0 : Value) (a1 a2 a3 e at_ : Int) (w : World) (hc : ∃ a n cap, c0 = .slice a n cap) :
    Calls Tryz.prog 44 #[.agg #[c0, .int .i64 a1, .int .i64 a2, .int .i64 a3], .int .i64 e, .int .i64 at_] w fun e' w' => e' = .returned (.agg #[c0, .int .i64 at_, .int .i64 e, .int .i64 at_]) ∧ Below w.heap.size w w' := by
  obtain ⟨a, n, cap, rfl⟩ := hc
  go_enter Tryz.func44, Tryz.ntmps44
  go_wp2
  refine bodyPost_ret (v := .agg #[.slice a n cap, .int .i64 at_, .int .i64 e, .int .i64 at_]) (by simp [results, Tryz.results44, go_sem]) rfl ⟨rfl, ?_⟩
  exact ((Below.refl _ _).alloc (Nat.le_refl _) _).alloc (by simp) _

set_option maxRecDepth 100000 in
set_option maxHeartbeats 1000000 in
/-- The document's Next. -/
theorem refNext_any (a : Option Addr) (cap : Nat) (p : List UInt8) (k : Nat) (y : Int) (w : World) (h : IsB w (.slice a p.length cap) p) (hk : k ≤ p.length) :
    Calls Tryz.prog 18 #[refR (.slice a p.length cap) k y] w fun e w' => e = .returned (.tuple #[refR (.slice a p.length cap) (rdC p k y 9223372036854775807).2.1 (rdC p k y 9223372036854775807).2.2, .int .i64 (rdC p k y 9223372036854775807).1]) ∧ Below w.heap.size w w' := by
  have hl := h.len
  have hcap : p.length ≤ cap := by obtain ⟨_, _, e, h, _⟩ := h; cases e; exact h
  have H : Hid (IsB w (.slice a p.length cap) p) := h
  clear h
  have HB0 : Hid (Below w.heap.size w ((w.alloc (.cells #[.slice a p.length cap, .int .i64 (k : Int), .int .i64 y, .int .i64 (badL k y)] 46)).alloc (.cells #[.slice none 0 0, .int .i64 0, .int .i64 0, .int .i64 0] 46))) := ((Below.refl _ _).alloc (Nat.le_refl _) _).alloc (by simp) _
  unfold refR
  by_cases hy : y = 0
  · subst hy
    have k1 : (k : Int) ≤ (cap : Int) := by omega
    have HSub : Hid (∀ W, Below w.heap.size w W → IsB W (.slice (Option.map (fun x => x.add k) a) (p.length - k) (cap - k)) (p.drop k)) := fun W hb => by
      obtain ⟨a', cap', e, hc, _, r⟩ := H.out.below hb
      cases e
      refine ⟨_, cap - k, by rw [List.length_drop], by rw [List.length_drop]; omega, by rw [List.length_drop]; omega, ?_⟩
      rcases r with rfl | ⟨b, o, rfl, hb⟩
      · exact .inl (by simp)
      · exact .inr ⟨b, o + k, by rw [Option.map_some, Addr.add_lit], hb.drop k⟩
    have HSub2 : Hid (∀ W, cap = k → IsB W (.slice a 0 0) (p.drop k)) := fun W hc => by
      have e : p.drop k = [] := List.drop_of_length_le (by omega)
      rw [e]
      exact IsB.none0 _ _
    have hbd : badL k 0 = 0 := rfl
    rw [hbd] at HB0 ⊢
    by_cases hck : k = cap
    all_goals (
      (try subst hck)
      (try have hck2 : ¬ cap = k := fun e => hck e.symm)
      go_enter Tryz.func18, Tryz.ntmps18
      go_wp2_with fail
      refine (refNum_any _ (p.drop k) _ (by first | exact HSub.out _ HB0.out | exact HSub2.out _ trivial)).mono ?_
      rintro e w1 ⟨⟨n, s, b, rfl, hb⟩, rfl⟩
      rcases hb with ⟨rfl, hn⟩ | ⟨rfl, hn⟩
      · have hnl := numL_le hn
        have HE : Hid (rdC p k 0 9223372036854775807 = ((n : Int), k + s, 0)) := rdC_ok hn (by omega)
        have hs1 : s ≤ 9 := hnl.2.2.1
        clear hn hnl
        go_wp2
        refine bodyPost_ret (v := .tuple #[.agg #[.slice a p.length _, .int .i64 ((k + s : Nat) : Int), .int .i64 0, .int .i64 0], .int .i64 (n : Int)]) (by simp [results, Tryz.results18, go_sem]; rfl) rfl ⟨by rw [HE.out]; rfl, ?_⟩
        exact ((Below.refl _ _).alloc (Nat.le_refl _) _).alloc (by simp) _
      · have HE : Hid (rdC p k 0 9223372036854775807 = (0, k, 2)) := rdC_none hn
        clear hn
        go_wp2_with fail
        refine (refFail_any _ _ _ _ _ _ _ ⟨_, _, _, rfl⟩).mono ?_
        rintro e w2 ⟨rfl, hb2⟩
        have HB2 : Hid (Below w.heap.size w w2) := HB0.out.trans (hb2.mono (by simp; omega))
        obtain ⟨f0, f1, f2, f3, fz⟩ := (four_second hb2).facts
        have z0 := fz 0
        have z1 := fz 1
        have z2 := fz 2
        have z3 := fz 3
        clear fz hb2
        go_wp2
        refine bodyPost_ret (v := .tuple #[.agg #[.slice a p.length _, .int .i64 (k : Int), .int .i64 2, .int .i64 (k : Int)], .int .i64 0]) (by simp [results, Tryz.results18, go_sem, *]; rfl) rfl ⟨by rw [HE.out]; rfl, (by repeat (first | exact HB2.out | refine Below.setCell ?_ (by simp) _ | refine Below.setCell ?_ (by simp; omega) _))⟩)
  · have HE : Hid (rdC p k y 9223372036854775807 = (0, k, y)) := by show _ = _; unfold rdC; rw [if_neg hy]
    have q : (y != 0) = true := by simp [hy]
    clear hy
    obtain ⟨bd, hbd⟩ : ∃ b, b = badL k y := ⟨_, rfl⟩
    have HBd : Hid (bd = badL k y) := hbd
    rw [← hbd]
    clear hbd HB0
    go_enter Tryz.func18, Tryz.ntmps18
    go_wp2
    refine bodyPost_ret (v := .tuple #[.agg #[.slice a p.length cap, .int .i64 (k : Int), .int .i64 y, .int .i64 bd], .int .i64 0]) (by simp [results, Tryz.results18, go_sem]) rfl ⟨by rw [HE.out, ← HBd.out], ?_⟩
    exact ((Below.refl _ _).alloc (Nat.le_refl _) _).alloc (by simp) _

set_option maxRecDepth 100000 in
set_option maxHeartbeats 2000000 in
/-- The document's Count. -/
theorem refCount_any (a : Option Addr) (cap : Nat) (p : List UInt8) (k : Nat) (y most : Int) (w : World) (h : IsB w (.slice a p.length cap) p) (hk : k ≤ p.length) :
    Calls Tryz.prog 20 #[refR (.slice a p.length cap) k y, .int .i64 most] w fun e w' => e = .returned (.tuple #[refR (.slice a p.length cap) (rdC p k y most).2.1 (rdC p k y most).2.2, .int .i64 (rdC p k y most).1]) ∧ Below w.heap.size w w' := by
  have H : Hid (IsB w (.slice a p.length cap) p) := h
  clear h
  obtain ⟨bd, hbd⟩ : ∃ b, b = badL k y := ⟨_, rfl⟩
  have HBd : Hid (bd = badL k y) := hbd
  have HB0 : Hid (Below w.heap.size w ((w.alloc (.cells #[.slice a p.length cap, .int .i64 (k : Int), .int .i64 y, .int .i64 bd] 46)).alloc (.cells #[.slice none 0 0, .int .i64 0, .int .i64 0, .int .i64 0] 46))) := ((Below.refl _ _).alloc (Nat.le_refl _) _).alloc (by simp) _
  have HNx : Hid (∀ W, Below w.heap.size w W → Calls Tryz.prog 18 #[.agg #[.slice a p.length cap, .int .i64 (k : Int), .int .i64 y, .int .i64 bd]] W fun e w' => e = .returned (.tuple #[refR (.slice a p.length cap) (rdC p k y 9223372036854775807).2.1 (rdC p k y 9223372036854775807).2.2, .int .i64 (rdC p k y 9223372036854775807).1]) ∧ Below W.heap.size W w') := fun W hb => by
    have := refNext_any a cap p k y W (H.out.below hb) hk
    unfold refR at this
    rw [← HBd.out] at this
    exact this
  unfold refR
  rw [← hbd]
  clear hbd
  go_enter Tryz.func20, Tryz.ntmps20
  go_wp2_with fail
  refine (HNx.out _ HB0.out).mono ?_
  rintro e w1 ⟨rfl, hb1⟩
  unfold refR
  by_cases hy : y = 0
  · subst hy
    have hb0 : bd = 0 := HBd.out
    subst hb0
    obtain ⟨f0, f1, f2, f3, fz⟩ := (four_first hb1).facts
    have FS : Hid (Four w1 (w.heap.size + 1) (.slice none 0 0) (.int .i64 0) (.int .i64 0) (.int .i64 0)) := four_second hb1
    obtain ⟨g0, g1, g2, g3, gz⟩ := FS.out.facts
    have z0 := gz 0
    have z1 := gz 1
    have z2 := gz 2
    have z3 := gz 3
    have hs2 : w.heap.size + 1 < w1.heap.size := by have := hb1.size; simp at this; omega
    have hs1 : w.heap.size < w1.heap.size := by omega
    have HB1 : Hid (Below w.heap.size w w1) := HB0.out.trans (hb1.mono (by simp; omega))
    clear fz gz hb1
    cases hn : numL (p.drop k) with
    | none =>
      rw [rdC_none hn]
      have HE : Hid (rdC p k 0 most = (0, k, 2)) := rdC_none hn
      clear hn
      go_wp2
      refine bodyPost_ret (v := .tuple #[.agg #[.slice a p.length cap, .int .i64 (k : Int), .int .i64 2, .int .i64 (badL k 2)], .int .i64 0]) (by simp [results, Tryz.results20, go_sem, *]; try rfl) rfl ⟨by rw [HE.out], (by repeat (first | exact HB1.out | refine Below.setCell ?_ (by simp) _ | refine Below.setCell ?_ (by simp; omega) _ | refine Below.alloc ?_ (by simp; omega) _))⟩
    | some x =>
      obtain ⟨n, s⟩ := x
      have hnl := numL_le hn
      have hs9 : s ≤ 9 := hnl.2.2.1
      rw [rdC_ok hn (by omega)]
      by_cases hm : most < (n : Int)
      · have HE : Hid (rdC p k 0 most = (0, k, 3)) := rdC_long hn hm
        clear hn hnl
        go_wp2_with fail
        refine (refFail_any _ _ _ _ _ _ _ ⟨_, _, _, rfl⟩).mono ?_
        rintro e w2 ⟨rfl, hb2⟩
        have HB2 : Hid (Below w.heap.size w w2) := (HB1.out.alloc HB1.out.size _).trans (hb2.mono (by simp; omega))
        obtain ⟨g0, g1, g2, g3, gz⟩ := (FS.out.below (((Below.refl w1.heap.size w1).alloc (Nat.le_refl _) _).trans (hb2.mono (by simp))) hs2).facts
        have z0 := gz 0
        have z1 := gz 1
        have z2 := gz 2
        have z3 := gz 3
        have hs3 : w.heap.size + 1 < w2.heap.size := by have := hb2.size; simp at this; omega
        clear gz hb2
        go_wp2
        refine bodyPost_ret (v := .tuple #[.agg #[.slice a p.length cap, .int .i64 (k : Int), .int .i64 3, .int .i64 (k : Int)], .int .i64 0]) (by simp [results, Tryz.results20, go_sem, *]; try rfl) rfl ⟨by rw [HE.out]; rfl, (by repeat (first | exact HB2.out | refine Below.setCell ?_ (by simp) _ | refine Below.setCell ?_ (by simp; omega) _ | refine Below.alloc ?_ (by simp; omega) _))⟩
      · have HE : Hid (rdC p k 0 most = ((n : Int), k + s, 0)) := rdC_ok hn hm
        clear hn hnl
        go_wp2
        refine bodyPost_ret (v := .tuple #[.agg #[.slice a p.length cap, .int .i64 ((k + s : Nat) : Int), .int .i64 0, .int .i64 (badL (k + s) 0)], .int .i64 (n : Int)]) (by simp [results, Tryz.results20, go_sem, *]; try rfl) rfl ⟨by rw [HE.out], (by repeat (first | exact HB1.out | refine Below.setCell ?_ (by simp) _ | refine Below.setCell ?_ (by simp; omega) _ | refine Below.alloc ?_ (by simp; omega) _))⟩
  · have HE1 : Hid (rdC p k y 9223372036854775807 = (0, k, y)) := by show _ = _; unfold rdC; rw [if_neg hy]
    have HE : Hid (rdC p k y most = (0, k, y)) := by show _ = _; unfold rdC; rw [if_neg hy]
    have q : (y == 0) = false := by simp [hy]
    clear hy
    rw [HE1.out]
    obtain ⟨f0, f1, f2, f3, fz⟩ := (four_first hb1).facts
    have FS : Hid (Four w1 (w.heap.size + 1) (.slice none 0 0) (.int .i64 0) (.int .i64 0) (.int .i64 0)) := four_second hb1
    obtain ⟨g0, g1, g2, g3, gz⟩ := FS.out.facts
    have z0 := gz 0
    have z1 := gz 1
    have z2 := gz 2
    have z3 := gz 3
    have hs2 : w.heap.size + 1 < w1.heap.size := by have := hb1.size; simp at this; omega
    have hs1 : w.heap.size < w1.heap.size := by omega
    have HB1 : Hid (Below w.heap.size w w1) := HB0.out.trans (hb1.mono (by simp; omega))
    clear fz gz hb1
    go_wp2
    refine bodyPost_ret (v := .tuple #[.agg #[.slice a p.length cap, .int .i64 (k : Int), .int .i64 y, .int .i64 (badL k y)], .int .i64 0]) (by simp [results, Tryz.results20, go_sem, *]; try rfl) rfl ⟨by rw [HE.out], (by repeat (first | exact HB1.out | refine Below.setCell ?_ (by simp) _ | refine Below.setCell ?_ (by simp; omega) _ | refine Below.alloc ?_ (by simp; omega) _))⟩

end Go.Proofs.YtlioiblpcpaejaaGreat
