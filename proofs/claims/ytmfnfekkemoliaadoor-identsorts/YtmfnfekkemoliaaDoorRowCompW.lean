/- The walk of slices.CompactFunc at a row of stamps. -/
import Derived.Test.YtmfnfekkemoliaaDoorRowCompact
import Derived.Test.YtmfnfekkemoliaaDoorRowSort
import Derived.Lib.SliceRun
namespace Go.Proofs.YtmfnfekkemoliaaDoor
open Go.RowKit
set_option linter.unusedVariables false

/-- What a region of CompactFunc reads, and all that was there. -/
def KeptC (w0 : World) (g a b P : Nat) (x y x2 y2 : Int) (w : World) : Prop :=
  (w.cell? ⟨g, a, none⟩ = some (.int .i64 x) ∧ w.cell? ⟨g, a + 1, none⟩ = some (.int .i64 y) ∧ w.cell? ⟨g, b, none⟩ = some (.int .i64 x2) ∧ w.cell? ⟨g, b + 1, none⟩ = some (.int .i64 y2) ∧ w.cell? ⟨P, 0, none⟩ = some (.func (.func 14) #[] #[])) ∧ Below w0.heap.size w0 w
theorem KeptC.step {w0 : World} {g a b P : Nat} {x y x2 y2 : Int} {W w' : World} (hg : g < w0.heap.size) (hP : P < w0.heap.size) (h : KeptC w0 g a b P x y x2 y2 W) (hb : Below W.heap.size W w') : KeptC w0 g a b P x y x2 y2 w' := by
  obtain ⟨⟨h1, h2, h3, h4, h5⟩, hw⟩ := h
  have hs := hw.size
  have hg2 : g < W.heap.size := by omega
  exact ⟨⟨(hb.cell (p := ⟨g, a, none⟩) hg2).trans h1, (hb.cell (p := ⟨g, a + 1, none⟩) hg2).trans h2, (hb.cell (p := ⟨g, b, none⟩) hg2).trans h3, (hb.cell (p := ⟨g, b + 1, none⟩) hg2).trans h4, (hb.cell (p := ⟨P, 0, none⟩) (by show P < _; omega)).trans h5⟩, hw.trans (hb.mono hs)⟩

theorem belowSets {B g : Nat} {a : World} (hb : B ≤ g) : ∀ (vs : List Value) (o : Nat) (w : World), Below B a w → Below B a (w.setCells g o vs)
  | [], _, _, h => h
  | v :: r, o, w, h => belowSets hb r (o + 1) (w.setCell ⟨g, o, none⟩ v) (h.setCell hb v)
def zeros2 (n : Nat) : List Value := (Builtin.zeroCells #[.int .i64 0, .int .i64 0] n).toList
theorem zeros2_length (n : Nat) : (zeros2 n).length = n * 2 := by simp [zeros2, Builtin.zeroCells]
theorem zeros2_mem (n : Nat) (v : Value) (h : v ∈ zeros2 n) : v.oneCell' = true := by
  simp only [zeros2, Builtin.zeroCells, Array.toList_map, List.mem_map] at h
  obtain ⟨i, _, rfl⟩ := h
  have : i % 2 = 0 ∨ i % 2 = 1 := by omega
  rcases this with e | e <;> simp [e, Value.oneCell']
theorem clear_two (w : World) (g o n c : Nat) (hn : 0 < n) (hc : ∀ j, j < n * 2 → (w.cell? ⟨g, o + j, none⟩).isSome = true) (hf : ∀ j, j < n * 2 → w.frozen? ⟨g, o + j, none⟩ = false) (ty : TypeId) :
    (Builtin.clear_ #[38] ty #[.slice (some ⟨g, o, none⟩) n c]).run Tryd.prog w = .ok (.tuple #[]) (w.setCells g o (zeros2 n)) := by
  have ht : Tryd.prog.underlying 38 = some (.slice 23) := by kernel_rfl
  have hv : ∀ w, (zeroValue 23).run Tryd.prog w = .ok (.agg #[.int .i64 0, .int .i64 0]) w := fun w => by kernel_rfl
  have hst := run_storeCells_cells (P := Tryd.prog) g o (zeros2 n) 0 w (by simpa [zeros2_length] using hc) (by simpa [zeros2_length] using hf) (zeros2_mem n)
  simp only [Nat.add_zero] at hst
  have hz : (Value.agg #[.int .i64 0, .int .i64 0]).cells = #[.int .i64 0, .int .i64 0] := by kernel_rfl
  obtain ⟨m, rfl⟩ : ∃ m, n = m + 1 := ⟨n - 1, by omega⟩
  unfold zeros2 at *
  simp [Builtin.clear_, run_underlying ht, hv, hz, hst]
theorem RowF.some {w : World} {g : Nat} {d : List (Int × Int)} (h : RowF w g d) (k j : Nat) (hj : k * 2 + j < d.length * 2) : (w.cell? ⟨g, k * 2 + j, none⟩).isSome = true ∧ w.frozen? ⟨g, k * 2 + j, none⟩ = false := by
  obtain ⟨m, e⟩ : ∃ m, k * 2 + j = m * 2 ∨ k * 2 + j = m * 2 + 1 := ⟨(k * 2 + j) / 2, by omega⟩
  obtain ⟨⟨h1, h2⟩, h3, h4⟩ := h m (by omega)
  rcases e with e | e <;> rw [e] <;> simp [*]
theorem RowF.cleared {w : World} {g k : Nat} {d e : List (Int × Int)} (h : RowF w g d) (he : d.take k = e) (hk : k ≤ d.length) (vs : List Value) : RowAt (w.setCells g (k * 2) vs) g 0 e := by
  subst he
  intro i hi
  have hi2 : i < k := by simp at hi; omega
  rw [show 0 + i * 2 = i * 2 by omega]
  rw [World.cell?_setCells_out g vs (k * 2) w ⟨g, i * 2, none⟩ (fun _ _ => Or.inl (by show i * 2 < k * 2; omega)), World.cell?_setCells_out g vs (k * 2) w ⟨g, i * 2 + 1, none⟩ (fun _ _ => Or.inl (by show i * 2 + 1 < k * 2; omega))]
  simp only [List.getElem_take]
  exact (h i (by omega)).1

theorem drop_succ {E d : List (Int × Int)} {a : Nat} (h : E.drop a = d.drop a) : E.drop (a + 1) = d.drop (a + 1) := by
  have e1 : E.drop (a + 1) = (E.drop a).drop 1 := by rw [List.drop_drop]
  have e2 : d.drop (a + 1) = (d.drop a).drop 1 := by rw [List.drop_drop]
  rw [e1, e2, h]
theorem drop_get {E d : List (Int × Int)} {a i : Nat} (h : E.drop a = d.drop a) (ha : a ≤ i) (h1 : i < E.length) (h2 : i < d.length) : E[i] = d[i] := by
  have e1 : (E.drop a)[i - a]? = E[i]? := by rw [List.getElem?_drop]; congr 1; omega
  have e2 : (d.drop a)[i - a]? = d[i]? := by rw [List.getElem?_drop]; congr 1; omega
  have e3 : E[i]? = d[i]? := by rw [← e1, h, e2]
  rw [List.getElem?_eq_getElem h1, List.getElem?_eq_getElem h2] at e3
  exact Option.some.inj e3
theorem compL_one (d : List (Int × Int)) (h : 0 < d.length) : compL (d.take 1) = d.take 1 := by
  have h1 := compL_next d 0 h
  have h2 : d.take 1 = [d[0]] := by rw [List.take_succ_eq_append_getElem h]; simp
  rw [h1, h2]
  simp [compL, cstep]

set_option maxHeartbeats 4000000 in
set_option maxRecDepth 100000 in
theorem compact_walk (B g cap P : Nat) (d : List (Int × Int)) (w : World) (hd : 2 ≤ d.length) (hl : d.length ≤ 8796093022208) (hcap : d.length ≤ cap) (hr : RowF w g d) (hP : w.cell? ⟨P, 0, none⟩ = some (.func (.func 14) #[] #[])) (hPg : P ≠ g) (hPl : P < w.heap.size) (hB : B ≤ g) :
    Calls Tryd.prog 48 #[.slice (some ⟨g, 0, none⟩) d.length cap, .func (.func 49) #[] #[.pointer (some ⟨P, 0, none⟩)]] w fun e w' => ∃ n, e = .returned (.slice (some ⟨g, 0, none⟩) n cap) ∧ n = (compL d).length ∧ RowAt w' g 0 (compL d) ∧ Below B w w' := by
  have hg := hr.lt (by omega)
  have hd1 : decide ((d.length : Int) < 2) = false := by simp only [decide_eq_false_iff_not]; omega
  go_enter Tryd.func48, Tryd.ntmps48
  go_wp2
  go_loopw [5] (fun kv wr => ∃ j : Nat, j + 1 ≤ d.length ∧ kv = .int .i64 ((j : Int) + 1) ∧ compL (d.take (j + 1)) = d.take (j + 1) ∧ Below w.heap.size w wr) (fun kv _ => d.length - (intOf kv).toNat)
  case atStart => exact ⟨0, by omega, rfl, compL_one d (by omega), Below.refl _ _⟩
  case round =>
    obtain ⟨j, hk, rfl, hc, hb⟩ := hrel
    have HC : Hid (compL (d.take (j + 1)) = d.take (j + 1)) := hc
    clear hc
    have hr2 := hr.below hb
    have hz := hb.size
    have hP2 : wr.cell? ⟨P, 0, none⟩ = some (.func (.func 14) #[] #[]) := (hb.cell (p := ⟨P, 0, none⟩) hPl).trans hP
    by_cases hlt : j + 1 < d.length
    · obtain ⟨⟨x1, x2⟩, f1, f2⟩ := hr2 (j + 1) hlt
      obtain ⟨⟨y1, y2⟩, f3, f4⟩ := hr2 j (by omega)
      have k1 : (j : Int) + 1 < (d.length : Int) := by omega
      have k0 : (0 : Int) ≤ (j : Int) + 1 := by omega
      have k4 : ((j : Int) + 1).toNat = j + 1 := by omega
      have k2 : (0 : Int) ≤ (j : Int) := by omega
      have k5 : IntKind.i64.wrap ((j : Int) + 1 - 1) = (j : Int) := by rw [IntWalk.i64_in _ (by omega)]; omega
      have k6 : IntKind.i64.wrap (j : Int) = (j : Int) := IntWalk.i64_in _ (by omega)
      have k3 : (j : Int) < (d.length : Int) := by omega
      cases hs : sameB (d[j + 1].1, d[j + 1].2) (d[j].1, d[j].2)
      · go_wp2
        go_region_held3 (fun w' => (w'.cell? ⟨g, (j + 1) * 2, none⟩ = some (.int .i64 d[j + 1].1) ∧ w'.cell? ⟨g, (j + 1) * 2 + 1, none⟩ = some (.int .i64 d[j + 1].2) ∧ w'.cell? ⟨g, j * 2, none⟩ = some (.int .i64 d[j].1) ∧ w'.cell? ⟨g, j * 2 + 1, none⟩ = some (.int .i64 d[j].2) ∧ w'.cell? ⟨P, 0, none⟩ = some (.func (.func 14) #[] #[])) ∧ Below wr.heap.size wr w')
          (first | exact ⟨⟨x1, x2, y1, y2, hP2⟩, (Below.refl _ _).drew⟩ | exact KeptC.step (by omega) (by omega) (by assumption) hb9)
          (first
            | (go_at_call 49; refine (eq_any P _ _ _ _ _ (by exact (show KeptC wr g ((j + 1) * 2) (j * 2) P d[j + 1].1 d[j + 1].2 d[j].1 d[j].2 _ by assumption).1.2.2.2.2)).mono ?_; rintro e w' ⟨rfl, hb9⟩))
        obtain ⟨⟨s1, s2, s3, s4, s5⟩, sb⟩ : KeptC wr g ((j + 1) * 2) (j * 2) P d[j + 1].1 d[j + 1].2 d[j].1 d[j].2 _ := by assumption
        clear hb9
        go_wp2
        go_roundw
        case rel =>
          refine ⟨j + 1, by omega, by go_num, ?_, hb.trans (sb.mono hz)⟩
          rw [compL_other d j hlt (fun e => by unfold sameB at hs; simp [e] at hs), HC.out, List.take_succ_eq_append_getElem hlt]
        case measure => simp [intOf]; omega
      · go_wp2
        go_region_held3 (fun w' => (w'.cell? ⟨g, (j + 1) * 2, none⟩ = some (.int .i64 d[j + 1].1) ∧ w'.cell? ⟨g, (j + 1) * 2 + 1, none⟩ = some (.int .i64 d[j + 1].2) ∧ w'.cell? ⟨g, j * 2, none⟩ = some (.int .i64 d[j].1) ∧ w'.cell? ⟨g, j * 2 + 1, none⟩ = some (.int .i64 d[j].2) ∧ w'.cell? ⟨P, 0, none⟩ = some (.func (.func 14) #[] #[])) ∧ Below wr.heap.size wr w')
          (first | exact ⟨⟨x1, x2, y1, y2, hP2⟩, (Below.refl _ _).drew⟩ | exact KeptC.step (by omega) (by omega) (by assumption) hb9)
          (first
            | (go_at_call 49; refine (eq_any P _ _ _ _ _ (by exact (show KeptC wr g ((j + 1) * 2) (j * 2) P d[j + 1].1 d[j + 1].2 d[j].1 d[j].2 _ by assumption).1.2.2.2.2)).mono ?_; rintro e w' ⟨rfl, hb9⟩))
        obtain ⟨⟨s1, s2, s3, s4, s5⟩, sb⟩ : KeptC wr g ((j + 1) * 2) (j * 2) P d[j + 1].1 d[j + 1].2 d[j].1 d[j].2 _ := by assumption
        clear hb9
        go_wp2
        have hsd : d[j + 1] = d[j] := by have h9 := hs; unfold sameB at h9; simp at h9; exact Prod.ext h9.1 h9.2
        have hc2 : compL (d.take (j + 1 + 1)) = d.take (j + 1) := by rw [compL_same d j hlt hsd]; exact HC.out
        have HC2 : Hid (compL (d.take (j + 1 + 1)) = d.take (j + 1)) := hc2
        have hr3 := hr2.below sb
        have sz := sb.size
        have belB : Below B w w' := (hb.mono (by omega)).trans (sb.mono (by omega))
        clear hc2 hsd s1 s2 s3 s4 x1 x2 y1 y2 f1 f2 f3 f4 hs
        obtain ⟨R, hR⟩ : ∃ R, d.length - (j + 1) = R := ⟨_, rfl⟩
        have HR : Hid (j + 1 + R = d.length) := by show _ = _; omega
        rw [hR]
        clear hR
        go_loopw [5, 7] (fun kv qv wr2 => ∃ (q : Nat) (E : List (Int × Int)), q + 1 ≤ R ∧ qv = .int .i64 ((q : Int) + 1) ∧ kv = .int .i64 ((compL (d.take (j + 1 + q + 1))).length : Int) ∧ (compL (d.take (j + 1 + q + 1))).length ≤ j + 1 + q ∧ E.length = d.length ∧ RowF wr2 g E ∧ E.take (compL (d.take (j + 1 + q + 1))).length = compL (d.take (j + 1 + q + 1)) ∧ E.drop (j + 1 + q) = d.drop (j + 1 + q) ∧ wr2.cell? ⟨P, 0, none⟩ = some (.func (.func 14) #[] #[]) ∧ w.heap.size ≤ wr2.heap.size ∧ Below B w wr2) (fun _ qv _ => R - (intOf qv).toNat)
        case atStart =>
          refine ⟨0, d, by have := HR.out; omega, rfl, ?_, ?_, rfl, hr3, ?_, by simp, s5, by omega, belB⟩
          · rw [show j + 1 + 0 + 1 = j + 1 + 1 by omega, HC2.out, List.length_take, Nat.min_eq_left (by omega)]; go_num
          · rw [show j + 1 + 0 + 1 = j + 1 + 1 by omega, HC2.out, List.length_take, Nat.min_eq_left (by omega)]; omega
          · rw [show j + 1 + 0 + 1 = j + 1 + 1 by omega, HC2.out, List.length_take, Nat.min_eq_left (by omega)]
        case round =>
          obtain ⟨q, E, hq, rfl, rfl, hkk, hE, hrE, hEt, hEd, hP3, hz3, hbB⟩ := hrel
          have hgE : g < wr.heap.size := hrE.lt (by omega)
          have HE1 : Hid (E.take (compL (d.take (j + 1 + q + 1))).length = compL (d.take (j + 1 + q + 1))) := hEt
          have HE2 : Hid (E.drop (j + 1 + q) = d.drop (j + 1 + q)) := hEd
          clear hEt hEd
          by_cases hlt2 : q + 1 < R
          · have hm : j + 1 + q + 1 < d.length := by have := HR.out; omega
            have hmE : j + 1 + q + 1 < E.length := by omega
            obtain ⟨⟨x1, x2⟩, f1, f2⟩ := hrE (j + 1 + q + 1) hmE
            obtain ⟨⟨y1, y2⟩, f3, f4⟩ := hrE (j + 1 + q) (by omega)
            have eA : E[j + 1 + q + 1] = d[j + 1 + q + 1] := drop_get HE2.out (by omega) hmE hm
            have eB : E[j + 1 + q]'(by omega) = d[j + 1 + q] := drop_get HE2.out (by omega) (by omega) (by omega)
            rw [eA] at x1 x2
            rw [eB] at y1 y2
            rw [show (j + 1 + q + 1) * 2 = (j + 1) * 2 + (q + 1) * 2 by omega] at x1 x2 f1 f2
            rw [show (j + 1 + q) * 2 = (j + 1) * 2 + q * 2 by omega] at y1 y2 f3 f4
            have k1 : (q : Int) + 1 < (R : Int) := by omega
            have k0 : (0 : Int) ≤ (q : Int) + 1 := by omega
            have k4 : ((q : Int) + 1).toNat = q + 1 := by omega
            have k2 : (0 : Int) ≤ (q : Int) := by omega
            have k5 : IntKind.i64.wrap ((q : Int) + 1 - 1) = (q : Int) := by rw [IntWalk.i64_in _ (by have := HR.out; omega)]; omega
            have k6 : IntKind.i64.wrap (q : Int) = (q : Int) := IntWalk.i64_in _ (by have := HR.out; omega)
            have k3 : (q : Int) < (R : Int) := by omega
            clear eA eB
            obtain ⟨kk, hkk0⟩ : ∃ kk, (compL (d.take (j + 1 + q + 1))).length = kk := ⟨_, rfl⟩
            rw [hkk0] at hkk
            have HK : Hid ((compL (d.take (j + 1 + q + 1))).length = kk) := hkk0
            rw [hkk0]
            clear hkk0
            cases hs : sameB (d[j + 1 + q + 1].1, d[j + 1 + q + 1].2) (d[j + 1 + q].1, d[j + 1 + q].2)
            · go_wp2
              go_region_held3 (fun w' => (w'.cell? ⟨g, (j + 1) * 2 + (q + 1) * 2, none⟩ = some (.int .i64 d[j + 1 + q + 1].1) ∧ w'.cell? ⟨g, (j + 1) * 2 + (q + 1) * 2 + 1, none⟩ = some (.int .i64 d[j + 1 + q + 1].2) ∧ w'.cell? ⟨g, (j + 1) * 2 + q * 2, none⟩ = some (.int .i64 d[j + 1 + q].1) ∧ w'.cell? ⟨g, (j + 1) * 2 + q * 2 + 1, none⟩ = some (.int .i64 d[j + 1 + q].2) ∧ w'.cell? ⟨P, 0, none⟩ = some (.func (.func 14) #[] #[])) ∧ Below wr.heap.size wr w')
                (first | exact ⟨⟨x1, x2, y1, y2, hP3⟩, (Below.refl _ _).drew⟩ | exact KeptC.step (by omega) (by omega) (by assumption) hb9)
                (first
                  | (go_at_call 49; refine (eq_any P _ _ _ _ _ (by exact (show KeptC wr g ((j + 1) * 2 + (q + 1) * 2) ((j + 1) * 2 + q * 2) P d[j + 1 + q + 1].1 d[j + 1 + q + 1].2 d[j + 1 + q].1 d[j + 1 + q].2 _ by assumption).1.2.2.2.2)).mono ?_; rintro e w4 ⟨rfl, hb9⟩))
              obtain ⟨⟨s1, s2, s3, s4, s6⟩, sb2⟩ : KeptC wr g ((j + 1) * 2 + (q + 1) * 2) ((j + 1) * 2 + q * 2) P d[j + 1 + q + 1].1 d[j + 1 + q + 1].2 d[j + 1 + q].1 d[j + 1 + q].2 _ := by assumption
              clear hb9
              have hrE4 := hrE.below sb2
              have sz2 := sb2.size
              obtain ⟨⟨g1, g2⟩, g3, g4⟩ := hrE4 kk (by omega)
              have v1 : (kk : Int) < (d.length : Int) := by omega
              have v2 : (0 : Int) ≤ (kk : Int) := by omega
              have v3 : kk < d.length := by omega
              have HrE : Hid (RowF w4 g E) := hrE4
              clear hrE4 hrE
              go_wp2
              go_roundw
              case rel =>
                have hne : d[j + 1 + q + 1] ≠ d[j + 1 + q] := fun e => by unfold sameB at hs; simp [e] at hs
                have hnew := compL_other d (j + 1 + q) (by omega) hne
                have hlen : (compL (d.take (j + 1 + (q + 1) + 1))).length = kk + 1 := by
                  rw [show j + 1 + (q + 1) + 1 = j + 1 + q + 1 + 1 by omega, hnew, List.length_append, HK.out]; rfl
                refine ⟨q + 1, E.set kk (d[j + 1 + q + 1].1, d[j + 1 + q + 1].2), by omega, by go_num, by rw [hlen]; go_num, by rw [hlen]; omega, by simp [hE], HrE.out.set (by omega) _ _, ?_, ?_, ?_, ?_, ?_⟩
                · rw [hlen, show j + 1 + (q + 1) + 1 = j + 1 + q + 1 + 1 by omega, hnew, List.take_succ_eq_append_getElem (by simp; omega), List.take_set_of_le (Nat.le_refl _), List.getElem_set_self, ← HE1.out, HK.out]
                · rw [List.drop_set_of_lt (by omega), show j + 1 + (q + 1) = (j + 1 + q) + 1 by omega]; exact drop_succ HE2.out
                · rw [World.cell?_setCell_other _ _ _ _ (by simp), World.cell?_setCell_other _ _ _ _ (by simp)]; exact s6
                · simp <;> omega
                · exact ((hbB.trans (sb2.mono (by omega))).setCell (by show B ≤ g; omega) _).setCell (by show B ≤ g; omega) _
              case measure => simp [intOf]; omega
            · go_wp2
              go_region_held3 (fun w' => (w'.cell? ⟨g, (j + 1) * 2 + (q + 1) * 2, none⟩ = some (.int .i64 d[j + 1 + q + 1].1) ∧ w'.cell? ⟨g, (j + 1) * 2 + (q + 1) * 2 + 1, none⟩ = some (.int .i64 d[j + 1 + q + 1].2) ∧ w'.cell? ⟨g, (j + 1) * 2 + q * 2, none⟩ = some (.int .i64 d[j + 1 + q].1) ∧ w'.cell? ⟨g, (j + 1) * 2 + q * 2 + 1, none⟩ = some (.int .i64 d[j + 1 + q].2) ∧ w'.cell? ⟨P, 0, none⟩ = some (.func (.func 14) #[] #[])) ∧ Below wr.heap.size wr w')
                (first | exact ⟨⟨x1, x2, y1, y2, hP3⟩, (Below.refl _ _).drew⟩ | exact KeptC.step (by omega) (by omega) (by assumption) hb9)
                (first
                  | (go_at_call 49; refine (eq_any P _ _ _ _ _ (by exact (show KeptC wr g ((j + 1) * 2 + (q + 1) * 2) ((j + 1) * 2 + q * 2) P d[j + 1 + q + 1].1 d[j + 1 + q + 1].2 d[j + 1 + q].1 d[j + 1 + q].2 _ by assumption).1.2.2.2.2)).mono ?_; rintro e w4 ⟨rfl, hb9⟩))
              obtain ⟨⟨s1, s2, s3, s4, s6⟩, sb2⟩ : KeptC wr g ((j + 1) * 2 + (q + 1) * 2) ((j + 1) * 2 + q * 2) P d[j + 1 + q + 1].1 d[j + 1 + q + 1].2 d[j + 1 + q].1 d[j + 1 + q].2 _ := by assumption
              clear hb9
              have hrE4 := hrE.below sb2
              have sz2 := sb2.size
              have HrE : Hid (RowF w4 g E) := hrE4
              clear hrE4 hrE
              go_wp2
              go_roundw
              case rel =>
                have hsd : d[j + 1 + q + 1] = d[j + 1 + q] := by have h9 := hs; unfold sameB at h9; simp at h9; exact Prod.ext h9.1 h9.2
                have hnew := compL_same d (j + 1 + q) (by omega) hsd
                have hlen : (compL (d.take (j + 1 + (q + 1) + 1))).length = kk := by
                  rw [show j + 1 + (q + 1) + 1 = j + 1 + q + 1 + 1 by omega, hnew, HK.out]
                refine ⟨q + 1, E, by omega, by go_num, by rw [hlen], by rw [hlen]; omega, hE, HrE.out, ?_, ?_, s6, by omega, hbB.trans (sb2.mono (by omega))⟩
                · rw [hlen, show j + 1 + (q + 1) + 1 = j + 1 + q + 1 + 1 by omega, hnew, ← HE1.out, HK.out]
                · rw [show j + 1 + (q + 1) = (j + 1 + q) + 1 by omega]; exact drop_succ HE2.out
              case measure => simp [intOf]; omega
          · have hend : j + 1 + q + 1 = d.length := by have := HR.out; omega
            have hfull : d.take (j + 1 + q + 1) = d := List.take_of_length_le (by omega)
            rw [hfull] at hkk HE1
            rw [hfull]
            obtain ⟨kk, hkk0⟩ : ∃ kk, (compL d).length = kk := ⟨_, rfl⟩
            rw [hkk0] at hkk HE1
            have HK : Hid ((compL d).length = kk) := hkk0
            rw [hkk0]
            clear hkk0 hfull
            have hcl := clear_two wr g (kk * 2) (d.length - kk) (cap - kk) (by omega) (fun j hj => (hrE.some kk j (by omega)).1) (fun j hj => (hrE.some kk j (by omega)).2)
            have HrE : Hid (RowF wr g E) := hrE
            clear hrE
            have k1 : ¬ ((q : Int) + 1 < (R : Int)) := by omega
            have v1 : (kk : Int) ≤ (d.length : Int) := by omega
            have v2 : (0 : Int) ≤ (kk : Int) := by omega
            have v3 : kk ≤ d.length := by omega
            have v4 : kk ≤ cap := by omega
            go_wp2_with (simp only [hcl])
            go_ret
            exact ⟨_, rfl, HK.out.symm, HrE.out.cleared HE1.out (by omega) _, belowSets (by omega) _ _ _ hbB⟩
    · have e : Hid (d.take (j + 1) = d) := List.take_of_length_le (by omega)
      go_wp2
      go_ret
      have hcd : compL d = d := by have h := HC.out; rw [e.out] at h; exact h
      refine ⟨_, rfl, by rw [hcd], by rw [hcd]; exact hr2.rowAt, hb.mono (by omega)⟩

end Go.Proofs.YtmfnfekkemoliaaDoor
