/- The links that have parcels: ways. -/
import Derived.Test.YtlcnfoljkcfplaaBgG
namespace Go.Proofs.Ytlcnfoljkcfplaa
open Go.RowKit
set_option linter.unusedVariables false
set_option linter.unusedSimpArgs false

/-- How many parcels a link has. -/
def wt (n : Nat) (B : Nat → List Pc) (f t : Nat) : Nat := if f = t then 0 else (B (f * n + t)).length
theorem wt_is {n : Nat} (B : Nat → List Pc) {f t : Nat} (hf : f < n) (ht : t < n) : (if linkE n (f : Int) (t : Int) = 0 then ((B (plc n (f : Int) (t : Int))).length : Int) else 0) = (wt n B f t : Int) := by
  have e1 : ((0 ≤ (f : Int) ∧ (f : Int) < n) ∧ (0 ≤ (t : Int) ∧ (t : Int) < n)) := ⟨⟨by omega, by omega⟩, by omega, by omega⟩
  unfold wt linkE plc
  rw [if_pos e1]
  by_cases h : f = t
  · subst h; simp
  · have h2 : ¬ ((f : Int) = (t : Int)) := by omega
    rw [if_neg h2, if_neg h, if_pos rfl]
    simp
def wone (n : Nat) (B : Nat → List Pc) (f t : Nat) : Option (Nat × Nat × Nat) := if 0 < wt n B f t then some (f, t, wt n B f t) else none
def wrow (n : Nat) (B : Nat → List Pc) (f k : Nat) : List (Nat × Nat × Nat) := (List.range k).filterMap (wone n B f)
def wall (n : Nat) (B : Nat → List Pc) (k : Nat) : List (Nat × Nat × Nat) := (List.range k).flatMap fun f => wrow n B f n
theorem wrow_succ (n : Nat) (B : Nat → List Pc) (f k : Nat) : wrow n B f (k + 1) = wrow n B f k ++ (wone n B f k).toList := by
  unfold wrow
  rw [List.range_succ, List.filterMap_append]
  cases h : wone n B f k <;> simp [h]
theorem wall_succ (n : Nat) (B : Nat → List Pc) (k : Nat) : wall n B (k + 1) = wall n B k ++ wrow n B k n := by
  unfold wall
  rw [List.range_succ, List.flatMap_append]
  simp
theorem wrow_len (n : Nat) (B : Nat → List Pc) (f k : Nat) : (wrow n B f k).length ≤ k := by
  have := List.length_filterMap_le (wone n B f) (List.range k)
  rw [List.length_range] at this
  exact this
theorem wall_len (n : Nat) (B : Nat → List Pc) (k : Nat) : (wall n B k).length ≤ k * n := by
  induction k with
  | zero => simp [wall]
  | succ k ih => rw [wall_succ, List.length_append, Nat.add_mul]; have := wrow_len n B k n; omega
def flatW (d : List (Nat × Nat × Nat)) : List Value := d.flatMap fun x => [.int .i64 (x.1 : Int), .int .i64 (x.2.1 : Int), .int .i64 (x.2.2 : Int)]
theorem flatW_append (d e : List (Nat × Nat × Nat)) : flatW (d ++ e) = flatW d ++ flatW e := by simp [flatW]
theorem flatW_length (d : List (Nat × Nat × Nat)) : (flatW d).length = d.length * 3 := by
  induction d with
  | nil => rfl
  | cons x y ih => simp [flatW] at ih ⊢; omega
theorem flatW_get (d : List (Nat × Nat × Nat)) : ∀ i (h : i < d.length), (flatW d)[i * 3]? = some (.int .i64 (d[i].1 : Int)) ∧ (flatW d)[i * 3 + 1]? = some (.int .i64 (d[i].2.1 : Int)) ∧ (flatW d)[i * 3 + 2]? = some (.int .i64 (d[i].2.2 : Int)) := by
  induction d with
  | nil => intro i h; simp at h
  | cons x y ih =>
    intro i h
    have e : flatW (x :: y) = .int .i64 (x.1 : Int) :: .int .i64 (x.2.1 : Int) :: .int .i64 (x.2.2 : Int) :: flatW y := rfl
    rw [e]
    match i with
    | 0 => exact ⟨rfl, rfl, rfl⟩
    | i + 1 =>
      have := ih i (by simpa using h)
      rw [show (i + 1) * 3 = i * 3 + 1 + 1 + 1 by omega]
      simpa using this
def OwnV (b : Nat) (w : World) (v : Value) (D : List (Nat × Nat × Nat)) : Prop := w.ownsRow b 71 3 v D.length (flatW D)
theorem infoWay : (Try.prog.info? 71).map (fun i => (i.zero, i.size, i.bytes)) = some (some (.agg #[.int .i64 0, .int .i64 0, .int .i64 0]), 3, 24) := by kernel_rfl
theorem OwnV.nil0 (w : World) (B : Nat) : OwnV B w (.slice none 0 0) [] := World.ownsRow_nil _ _ _ _
theorem OwnV.below {b : Nat} {w w' : World} {v : Value} {D : List (Nat × Nat × Nat)} (h : OwnV b w v D) (hb : Below w.heap.size w w') : OwnV b w' v D := ownsRow_keep h fun k e => hb.block k (World.ownsRow.lt h k e).2
theorem OwnV.snoc {b : Nat} {w : World} {v : Value} {D : List (Nat × Nat × Nat)} {x : Nat × Nat × Nat} (h : w.ownsRow b 71 3 v (D.length + 1) (flatW D ++ [.int .i64 (x.1 : Int), .int .i64 (x.2.1 : Int), .int .i64 (x.2.2 : Int)])) : OwnV b w v (D ++ [x]) := by
  unfold OwnV
  rw [flatW_append, List.length_append]
  exact h
theorem OwnV.form {b : Nat} {w : World} {v : Value} {D : List (Nat × Nat × Nat)} (h : OwnV b w v D) : ∃ a cap, v = .slice a D.length cap := by
  rcases h.2 with ⟨rfl, hn⟩ | ⟨g, cap, cur, rfl, _⟩
  · exact ⟨none, 0, by rw [hn]⟩
  · exact ⟨_, cap, rfl⟩
theorem OwnV.block {b : Nat} {w : World} {v : Value} {D : List (Nat × Nat × Nat)} (h : OwnV b w v D) : ∀ k, v.ownBlock = some k → b ≤ k := fun k e => (World.ownsRow.lt h k e).1

set_option maxRecDepth 100000 in
set_option maxHeartbeats 4000000 in
theorem ways0_any (F : Nat → Prop) (nb n : Nat) (B : Nat → List Pc) (w : World) (h : NetOk F w nb n B) :
    Calls Try.prog 37 #[.pointer (some ⟨nb, 0, none⟩)] w fun e w' => ∃ v, e = .returned v ∧ OwnV w.heap.size w' v (wall n B n) ∧ Below w.heap.size w w' := by
  obtain ⟨i0, hin, hz0, hz1, hz2⟩ := info_parts infoWay
  have H : Hid (NetOk F w nb n B) := h
  have hn64 := h.small
  have hnn : n * n ≤ 4096 := Nat.mul_le_mul hn64 hn64
  have HNN : Hid (n * n ≤ 4096) := hnn
  have HLim : Hid (∀ f t, wt n B f t ≤ 256) := fun f t => by
    unfold wt
    split
    · omega
    · exact (h.lim _).1
  clear h hnn
  go_enter Try.func37, Try.ntmps37
  go_wp2_with fail
  refine (size_any F nb n B _ H.out).mono ?_
  rintro e w' ⟨rfl, hw⟩
  replace hw := hw.symm
  subst hw
  go_wp2
  go_loopw [3, 9] (fun ov iv wr => ∃ (k : Nat) (a : Option Addr) (c : Nat), k ≤ n ∧ iv = .int .i64 (k : Int) ∧ ov = .slice a (wall n B k).length c ∧ Hid (OwnV w.heap.size wr (.slice a (wall n B k).length c) (wall n B k)) ∧ Hid (Below w.heap.size w wr)) (fun _ iv _ => n - (intOf iv).toNat)
  case atStart => exact ⟨0, _, _, Nat.zero_le _, rfl, rfl, OwnV.nil0 _ _, Below.refl _ _⟩
  case round =>
    obtain ⟨k, a, c, hk, rfl, rfl, HO, HB⟩ := hrel
    by_cases hlt : k < n
    · have k1 : (k : Int) < (n : Int) := by omega
      go_wp2_with fail
      refine (size_any F nb n B _ (H.out.below HB.out)).mono ?_
      rintro e w' ⟨rfl, hw⟩
      replace hw := hw.symm
      subst hw
      go_wp2
      rename World => wq
      go_loopw [3, 14] (fun ov iv wr => ∃ (j : Nat) (a : Option Addr) (c : Nat), j ≤ n ∧ iv = .int .i64 (j : Int) ∧ ov = .slice a (wall n B k ++ wrow n B k j).length c ∧ Hid (OwnV w.heap.size wr (.slice a (wall n B k ++ wrow n B k j).length c) (wall n B k ++ wrow n B k j)) ∧ Hid (Below w.heap.size w wr)) (fun _ iv _ => n - (intOf iv).toNat)
      case atStart =>
        have e : wall n B k ++ wrow n B k 0 = wall n B k := by simp [wrow]
        exact ⟨0, a, c, Nat.zero_le _, rfl, by rw [e], by rw [e]; exact HO, HB⟩
      case round =>
        obtain ⟨j, a2, c2, hj, rfl, rfl, HO2, HB2⟩ := hrel
        by_cases hlt2 : j < n
        · have j1 : (j : Int) < (n : Int) := by omega
          have HS : Hid (wall n B k ++ wrow n B k (j + 1) = (wall n B k ++ wrow n B k j) ++ (wone n B k j).toList) := by show _ = _; rw [wrow_succ, List.append_assoc]
          have HD : Hid ((wall n B k ++ wrow n B k j).length ≤ 8192) := by
            show _ ≤ _
            rw [List.length_append]
            have h1 := wall_len n B k
            have h2 := wrow_len n B k j
            have h3 : k * n ≤ n * n := Nat.mul_le_mul_right n hk
            have h4 := HNN.out
            omega
          go_wp2_with fail
          refine (waiting_any F nb n B _ _ _ (H.out.below HB2.out)).mono ?_
          rintro e w3 ⟨rfl, hw⟩
          rw [wt_is B hlt hlt2]
          have HB3 : Hid (Below w.heap.size w w3) := HB2.out.trans (hw.mono HB2.out.size)
          have HO3 : Hid (OwnV w.heap.size w3 (.slice a2 (wall n B k ++ wrow n B k j).length c2) (wall n B k ++ wrow n B k j)) := HO2.out.below hw
          clear hw
          have hl3 := HLim.out k j
          by_cases h0 : 0 < wt n B k j
          · have HW1 : Hid (wall n B k ++ wrow n B k (j + 1) = (wall n B k ++ wrow n B k j) ++ [(k, j, wt n B k j)]) := by show _ = _; rw [HS.out]; unfold wone; rw [if_pos h0]; rfl
            generalize wall n B k ++ wrow n B k j = D at *
            generalize wt n B k j = q at *
            have HV : Hid (∀ W : World, W = w3.alloc (.cells #[.int .i64 (k : Int), .int .i64 (j : Int), .int .i64 (q : Int)] 71) → (∀ i u, [Value.int .i64 (k : Int), .int .i64 (j : Int), .int .i64 (q : Int)][i]? = some u → W.cell? ((⟨w3.heap.size, 0, none⟩ : Addr).add i) = some u) ∧ Below w3.heap.size w3 W) := fun W hW => by
              refine ⟨fun i u hi => ?_, by rw [hW]; exact (Below.refl _ _).alloc (Nat.le_refl _) _⟩
              rw [Addr.add_lit, cell_of_row W w3.heap.size _ _ _ _ (by rw [hW]; exact heap_alloc_new w3 _)]
              simpa using hi
            go_wp2_with (at_builtin; refine wpList_append_own _ rfl _ _ 67 rfl w.heap.size 71 i0 (.agg #[.int .i64 0, .int .i64 0, .int .i64 0]) 3 24 Try.underlying67 hin hz0 hz1 hz2 rfl (by decide) _ _ _ rfl (HO3.out.below (HV.out _ rfl).2) ⟨w3.heap.size, 0, none⟩ 1 1 [.int .i64 (k : Int), .int .i64 (j : Int), .int .i64 (q : Int)] rfl rfl (HV.out _ rfl).1 (fun x hx => by simp at hx; rcases hx with rfl | rfl | rfl <;> rfl) (by have := HD.out; unfold maxLen; omega) (by have := HD.out; omega) (Nat.le_trans HB3.out.size (HV.out _ rfl).2.size) ?_; intro v4 w4 hown4 hgrow4 hnil4; obtain ⟨a4, c4, e4⟩ := OwnV.form (OwnV.snoc (x := (k, j, q)) hown4); subst e4; have HO4 : Hid (OwnV w.heap.size w4 _ (D ++ [(k, j, q)])) := OwnV.snoc (x := (k, j, q)) hown4; have HB4 : Hid (Below w.heap.size w w4) := (HB3.out.trans ((HV.out _ rfl).2.mono HB3.out.size)).grown hgrow4 (Nat.le_trans HB3.out.size (HV.out _ rfl).2.size) HO3.out.block; clear hown4 hgrow4 hnil4)
            go_round
            case rel => exact ⟨j + 1, a4, c4, by omega, by go_num, by rw [HW1.out]; simp, by rw [HW1.out]; exact HO4, HB4⟩
            case measure => simp [intOf]; omega
          · have HW1 : Hid (wall n B k ++ wrow n B k (j + 1) = wall n B k ++ wrow n B k j) := by show _ = _; rw [HS.out]; unfold wone; rw [if_neg h0]; simp
            have h00 : wt n B k j = 0 := by omega
            rw [h00]
            generalize wall n B k ++ wrow n B k j = D at *
            go_wp2
            go_round
            case rel => exact ⟨j + 1, a2, c2, by omega, by go_num, by rw [HW1.out], by rw [HW1.out]; exact HO3, HB3⟩
            case measure => simp [intOf]; omega
        · obtain rfl : j = n := by omega
          have e : wall j B (k + 1) = wall j B k ++ wrow j B k j := wall_succ j B k
          have HE : Hid (wall j B (k + 1) = wall j B k ++ wrow j B k j) := e
          clear e
          generalize wall j B k ++ wrow j B k j = D at *
          go_wp2
          go_round
          case rel => exact ⟨k + 1, a2, c2, by omega, by go_num, by rw [HE.out], by rw [HE.out]; exact HO2, HB2⟩
          case measure => simp [intOf]; omega
    · obtain rfl : k = n := by omega
      go_wp2
      go_ret
      exact ⟨_, rfl, HO.out, HB.out⟩

end Go.Proofs.Ytlcnfoljkcfplaa
