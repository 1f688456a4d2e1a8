/- What the document's Text and Done do. -/
import Derived.Test.YtlioiblpcpaejaaGreatXWoI
namespace Go.Proofs.YtlioiblpcpaejaaGreat
open Go.RowKit
set_option linter.unusedVariables false

theorem err_text {p : List UInt8} {k : Nat} {y most : Int} (h : (rdC p k y most).2.2 ≠ 0) : rdT p k y most = ([], (rdC p k y most).2.1, (rdC p k y most).2.2) := by
  unfold rdT rdC at *
  by_cases hy : y = 0
  · rw [if_pos hy] at h ⊢
    rw [if_pos hy]
    generalize cntL (p.drop k) most = c at *
    obtain ⟨n, s, e⟩ := c
    simp only at h ⊢
    by_cases he : e = 0
    · rw [if_pos he] at h; exact absurd rfl h
    · rw [if_neg he, if_neg he]
  · rw [if_neg hy, if_neg hy]
theorem ok_text {p : List UInt8} {k : Nat} {y most : Int} (h : (rdC p k y most).2.2 = 0) : y = 0 ∧ ∃ n s, cntL (p.drop k) most = (n, s, 0) ∧ rdC p k y most = ((n : Int), k + s, 0) := by
  unfold rdC at *
  by_cases hy : y = 0
  · refine ⟨hy, ?_⟩
    rw [if_pos hy] at h ⊢
    generalize cntL (p.drop k) most = c at *
    obtain ⟨n, s, e⟩ := c
    simp only at h ⊢
    by_cases he : e = 0
    · rw [if_pos he]; exact ⟨n, s, by rw [he], rfl⟩
    · rw [if_neg he] at h; exact absurd h he
  · rw [if_neg hy] at h; exact absurd h hy

set_option maxRecDepth 100000 in
set_option maxHeartbeats 2000000 in
/-- The document's Text. -/
theorem refText_any (a : Option Addr) (cap : Nat) (p : List UInt8) (k : Nat) (y most : Int) (w : World) (h : IsB w (.slice a p.length cap) p) (hk : k ≤ p.length) :
    Calls Tryz.prog 21 #[refR (.slice a p.length cap) k y, .int .i64 most] w fun e w' => e = .returned (.tuple #[refR (.slice a p.length cap) (rdT p k y most).2.1 (rdT p k y most).2.2, .string (txt (rdT p k y most).1)]) ∧ Below w.heap.size w w' := by
  have hl := h.len
  have hcap : p.length ≤ cap := by obtain ⟨_, _, e, h, _⟩ := h; cases e; exact h
  have H : Hid (IsB w (.slice a p.length cap) p) := h
  clear h
  obtain ⟨bd, hbd⟩ : ∃ b, b = badL k y := ⟨_, rfl⟩
  have HBd : Hid (bd = badL k y) := hbd
  have HB0 : Hid (Below w.heap.size w ((w.alloc (.cells #[.slice a p.length cap, .int .i64 (k : Int), .int .i64 y, .int .i64 bd] 46)).alloc (.cells #[.slice none 0 0, .int .i64 0, .int .i64 0, .int .i64 0] 46))) := ((Below.refl _ _).alloc (Nat.le_refl _) _).alloc (by simp) _
  have HNx : Hid (∀ W, Below w.heap.size w W → Calls Tryz.prog 20 #[.agg #[.slice a p.length cap, .int .i64 (k : Int), .int .i64 y, .int .i64 bd], .int .i64 most] W fun e w' => e = .returned (.tuple #[refR (.slice a p.length cap) (rdC p k y most).2.1 (rdC p k y most).2.2, .int .i64 (rdC p k y most).1]) ∧ Below W.heap.size W w') := fun W hb => by
    have := refCount_any a cap p k y most W (H.out.below hb) hk
    unfold refR at this
    rw [← HBd.out] at this
    exact this
  unfold refR
  rw [← hbd]
  clear hbd
  go_enter Tryz.func21, Tryz.ntmps21
  go_wp2_with fail
  refine (HNx.out _ HB0.out).mono ?_
  rintro e w1 ⟨rfl, hb1⟩
  unfold refR
  have FS : Hid (Four w1 (w.heap.size + 1) (.slice none 0 0) (.int .i64 0) (.int .i64 0) (.int .i64 0)) := four_second hb1
  obtain ⟨f0, f1, f2, f3, fz⟩ := (four_first hb1).facts
  obtain ⟨g0, g1, g2, g3, gz⟩ := FS.out.facts
  have z0 := gz 0
  have z1 := gz 1
  have z2 := gz 2
  have z3 := gz 3
  have hs2 : w.heap.size + 1 < w1.heap.size := by have := hb1.size; simp at this; omega
  have hs1 : w.heap.size < w1.heap.size := by omega
  have HB1 : Hid (Below w.heap.size w w1) := HB0.out.trans (hb1.mono (by simp; omega))
  clear fz gz hb1
  by_cases hy : (rdC p k y most).2.2 = 0
  · obtain ⟨rfl, n, s, hcn, hrd⟩ := ok_text hy
    have hb0 : bd = 0 := HBd.out
    subst hb0
    have hq := cntL_len (p := p.drop k) (most := most)
    rw [hcn, List.length_drop] at hq
    simp only at hq
    obtain ⟨hq1, hq2, hq3⟩ := hq
    rw [hrd]
    have HRT : Hid (rdT p k 0 most = if p.length - k - s < n then ([], k, 2) else ((p.drop (k + s)).take n, k + s + n, 0)) := by
      show _ = _
      unfold rdT; rw [if_pos rfl, hcn]; simp only [if_true]
    clear hcn hrd hy
    have hbz : badL (k + s) 0 = 0 := rfl
    rw [show badL ((n : Int), k + s, (0 : Int)).2.1 ((n : Int), k + s, (0 : Int)).2.2 = 0 from rfl]
    by_cases hf : p.length - k - s < n
    · have HE : Hid (rdT p k 0 most = ([], k, 2)) := by have h := HRT.out; rw [if_pos hf] at h; exact h
      have q1 : (p.length : Int) - ((k : Int) + (s : Int)) < (n : Int) := by omega
      go_wp2_with fail
      refine (refFail_any _ _ _ _ _ _ _ ⟨_, _, _, rfl⟩).mono ?_
      rintro e w2 ⟨rfl, hb2⟩
      have HB2 : Hid (Below w.heap.size w w2) := (HB1.out.alloc HB1.out.size _).trans (hb2.mono (by simp; omega))
      obtain ⟨g0, g1, g2, g3, gz⟩ := (FS.out.below (((Below.refl w1.heap.size w1).alloc (Nat.le_refl _) _).trans (hb2.mono (by simp))) hs2).facts
      have z0 := gz 0
      have z1 := gz 1
      have z2 := gz 2
      have z3 := gz 3
      have hs3 : w.heap.size + 1 < w2.heap.size := by have := hb2.size; simp at this; omega
      clear gz hb2
      go_wp2
      refine bodyPost_ret (v := .tuple #[.agg #[.slice a p.length cap, .int .i64 (k : Int), .int .i64 2, .int .i64 (k : Int)], .string ⟨#[]⟩]) (by simp [results, Tryz.results21, go_sem, *]; try rfl) rfl ⟨by rw [HE.out]; rfl, (by repeat (first | exact HB2.out | refine Below.setCell ?_ (by simp) _ | refine Below.setCell ?_ (by simp; omega) _ | refine Below.alloc ?_ (by simp; omega) _))⟩
    · have HE : Hid (rdT p k 0 most = ((p.drop (k + s)).take n, k + s + n, 0)) := by have h := HRT.out; rw [if_neg hf] at h; exact h
      have q1 : ¬ (p.length : Int) - ((k : Int) + (s : Int)) < (n : Int) := by omega
      have hks : k + s + n ≤ p.length := by omega
      have q2 : (k : Int) + (s : Int) ≤ (cap : Int) := by omega
      have q3 : (k : Int) + (s : Int) + (n : Int) ≤ (cap : Int) := by omega
      have HSub : Hid (∀ o, IsB (w1.alloc o) (.slice (Option.map (fun x => x.add (k + s)) a) n (cap - (k + s))) ((p.drop (k + s)).take n)) := fun o => (((H.out.below HB1.out).below ((Below.refl _ _).alloc (Nat.le_refl _) o)).sub (k + s) n (by omega))
      by_cases hcs : cap = k + s
      · subst hcs
        obtain rfl : n = 0 := by omega
        have hcv : ∀ o, (convert 22 9 (.slice a 0 0)).run Tryz.prog (w1.alloc o) = .ok (.string (txt ((p.drop (k + s)).take 0))) (w1.alloc o) := fun o => by
          rw [List.take_zero]
          exact conv_txt (IsB.none0 _ _)
        clear HSub
        go_wp2
        refine bodyPost_ret (v := .tuple #[.agg #[.slice a p.length (k + s), .int .i64 ((k + s : Nat) : Int), .int .i64 0, .int .i64 0], .string (txt ((p.drop (k + s)).take 0))]) (by simp [results, Tryz.results21, go_sem, *]; try rfl) rfl ⟨by rw [HE.out]; rfl, (by repeat (first | exact HB1.out | refine Below.setCell ?_ (by simp) _ | refine Below.setCell ?_ (by simp; omega) _ | refine Below.alloc ?_ (by simp; omega) _))⟩
      · have hcv : ∀ o, (convert 22 9 (.slice (Option.map (fun x => x.add (k + s)) a) n (cap - (k + s)))).run Tryz.prog (w1.alloc o) = .ok (.string (txt ((p.drop (k + s)).take n))) (w1.alloc o) := fun o => conv_txt (HSub.out o)
        clear HSub
        go_wp2
        refine bodyPost_ret (v := .tuple #[.agg #[.slice a p.length cap, .int .i64 ((k + s + n : Nat) : Int), .int .i64 0, .int .i64 0], .string (txt ((p.drop (k + s)).take n))]) (by simp [results, Tryz.results21, go_sem, *]; try rfl) rfl ⟨by rw [HE.out]; rfl, (by repeat (first | exact HB1.out | refine Below.setCell ?_ (by simp) _ | refine Below.setCell ?_ (by simp; omega) _ | refine Below.alloc ?_ (by simp; omega) _))⟩
  · have HE : Hid (rdT p k y most = ([], (rdC p k y most).2.1, (rdC p k y most).2.2)) := err_text hy
    generalize rdC p k y most = r at *
    obtain ⟨n, k', y'⟩ := r
    simp only at hy HE ⊢
    have q : (y' != 0) = true := by simp [hy]
    clear hy
    obtain ⟨bd', hbd'⟩ : ∃ b, b = badL k' y' := ⟨_, rfl⟩
    have HBd' : Hid (bd' = badL k' y') := hbd'
    rw [← hbd']
    clear hbd'
    go_wp2
    refine bodyPost_ret (v := .tuple #[.agg #[.slice a p.length cap, .int .i64 (k' : Int), .int .i64 y', .int .i64 bd'], .string ⟨#[]⟩]) (by simp [results, Tryz.results21, go_sem, *]; try rfl) rfl ⟨by rw [HE.out, HBd'.out]; rfl, (by repeat (first | exact HB1.out | refine Below.setCell ?_ (by simp) _ | refine Below.setCell ?_ (by simp; omega) _ | refine Below.alloc ?_ (by simp; omega) _))⟩

end Go.Proofs.YtlioiblpcpaejaaGreat
