/- RgaRuns: of two that put slots behind one slot none parts the other one's. -/
import Derived.Test.YtfgkdbidgbpobaaRnB
import Derived.Test.YtfgkdbidgbpobaaBaseT
import Derived.Deep.CutRange
namespace Go.Proofs.Ytfgkdbidgbpobaa
open Go.RowKit
set_option linter.unusedVariables false
set_option linter.unusedSimpArgs false

set_option maxRecDepth 100000 in
set_option maxHeartbeats 8000000 in
theorem rgaRuns_walk (v : Value) (l : List Sl) (t : Tw) (v2 : Value) (od : List Int) (w : World) (h : IsSl w v l) (h2 : IsIn w v2 od) :
    Calls Try.prog 4 #[v, .agg #[.int .i64 t.n, .int .i64 t.m, .int .i64 t.a, .int .i64 t.b, .bool t.f], v2] w fun e w' => e = .returned (.bool true) ∧ Below w.heap.size w w' := by
  obtain ⟨isl, hisl, hz0sl, hz1sl, hz2sl⟩ := info_parts infoSlot
  obtain ⟨a0, c0, e0⟩ := h.form
  subst e0
  obtain ⟨ao, co, e2, hoc, hol, hor⟩ := h2
  subst e2
  obtain ⟨W0, eW⟩ : ∃ X, X = w.alloc (.cells [.int .i64 t.n, .int .i64 t.m, .int .i64 t.a, .int .i64 t.b, .bool t.f].toArray 44) := ⟨_, rfl⟩
  have hb0 : Below w.heap.size w W0 := by rw [eW]; exact (Below.refl _ _).alloc (Nat.le_refl _) _
  have HT0 : Hid (BxC w.heap.size [.int .i64 t.n, .int .i64 t.m, .int .i64 t.a, .int .i64 t.b, .bool t.f] 44 W0) := by rw [eW]; exact BxC.new _ _ _
  have HB00 : Hid (Below w.heap.size w W0) := hb0
  have hs0 : W0.heap.size = w.heap.size + 1 := by rw [eW]; simp
  have HLs : Hid (IsSl W0 (.slice a0 l.length c0) l) := h.below hb0
  have HOr : Hid (od = [] ∨ ∃ b o, ao = some ⟨b, o, none⟩ ∧ b < w.heap.size ∧ ∀ i (h : i < od.length), w.cell? ⟨b, o + i, none⟩ = some (.int .i64 od[i])) := hor
  clear h hor hb0
  go_enter Try.func4, Try.ntmps4
  go_wp2_with fail
  have eW2 := eW
  rw [← eW2]
  clear eW2 eW
  refine (laid_any _ l _ HLs.out).mono ?_
  rintro e w1 ⟨rb, F, db, do_, dc, rfl, hM⟩
  have HG : Hid (GoodL (laidL l)) := hM.row.good
  have HLn : Hid ((laidL l).length ≤ 120) := laidL_len l
  obtain ⟨L, eL⟩ : ∃ L, L = laidL l := ⟨_, rfl⟩
  rw [← eL] at hM HG HLn
  rw [← eL]
  clear eL HLs
  have hLl : L.length ≤ 120 := HLn.out
  obtain ⟨w2, ew2⟩ : ∃ X, X = w1.alloc (.cells (stCells z0).toArray 33) := ⟨_, rfl⟩
  have hb2 : Below w1.heap.size w1 w2 := by rw [ew2]; exact (Below.refl _ _).alloc (Nat.le_refl _) _
  obtain ⟨b11, eb11⟩ : ∃ b, b = w1.heap.size := ⟨_, rfl⟩
  have HS : Hid (RnS w b11 rb F (.slice (some ⟨db, do_, none⟩) L.length dc) L L [.int .i64 t.n, .int .i64 t.m, .int .i64 t.a, .int .i64 t.b, .bool t.f] z0 w2) := ⟨(HT0.out.below hM.bel).below hb2, by rw [ew2, eb11]; exact BxC.new _ _ _, hM.row.below hb2, fun j hj => by (have := hM.hi j hj; omega), fun hF => by (have := hM.row.lt _ hF; omega), by (have := hM.bel.size; omega), (hM.doc.lo.below hb2).mono (fun k hk => ⟨hk.1, by (have := hk.2; omega)⟩), (HB00.out.trans (hM.bel.mono HB00.out.size)).trans (hb2.mono (HB00.out.trans (hM.bel.mono HB00.out.size)).size)⟩
  obtain ⟨n, hn, en⟩ := modU t.n 12 (by omega) (by omega)
  obtain ⟨m, hm, em⟩ := modU t.m 12 (by omega) (by omega)
  obtain ⟨ka, hka, eka⟩ := modU t.a 50 (by omega) (by omega)
  obtain ⟨kb, hkb, ekb⟩ := modU t.b 50 (by omega) (by omega)
  have eka' : Hid (wrap64 ((IntKind.u64.wrap t.a).tmod 50) = (ka : Int)) := eka
  have ekb' : Hid (wrap64 ((IntKind.u64.wrap t.b).tmod 50) = (kb : Int)) := ekb
  have t0 : w1.cell? ⟨w.heap.size, 0, none⟩ = some (.int .i64 t.n) := (HT0.out.below hM.bel).cell 0 _ rfl
  have t1 : w1.cell? ⟨w.heap.size, 1, none⟩ = some (.int .i64 t.m) := (HT0.out.below hM.bel).cell 1 _ rfl
  have HE2 : Hid (w2 = w1.alloc (.cells #[.int .i64 0, .int .i64 0] 33) ∧ b11 = w1.heap.size) := ⟨ew2, eb11⟩
  have t4 : (w1.alloc (.cells #[.int .i64 0, .int .i64 0] 33)).cell? ⟨w.heap.size, 4, none⟩ = some (.bool t.f) := by (have h9 := HS.out.two.cell 4 _ rfl; rw [HE2.out.1] at h9; exact h9)
  clear hM hb2 eka ekb ew2 eb11 HT0 HB00 hs0
  have hL0 : L.length = 0 ∨ 0 < L.length := by omega
  go_upto_region 5 with fail
  (try rw [en])
  (try rw [em])
  clear en em
  go_cut [47] from 40 (fun v W => ∃ bb : Bool, v = .bool bb ∧ (bb = true → 0 < L.length) ∧ W = w1.alloc (.cells #[.int .i64 0, .int .i64 0] 33))
  case first =>
    rcases hL0 with hL0 | hL0
    · have q : ¬ (0 : Int) < (L.length : Int) := by omega
      have q2 : decide ((0 : Int) < (L.length : Int)) = false := decide_eq_false q
      clear hL0
      go_wp2_with fail
      go_meet
      case rel => exact ⟨false, rfl, (fun e => nomatch e), rfl⟩
    · have q : (0 : Int) < (L.length : Int) := by omega
      go_wp2_with fail
      go_meet
      case rel => exact ⟨_, rfl, fun _ => hL0, rfl⟩
  case rest =>
    obtain ⟨bb, rfl, hbb, rfl⟩ := hcut
    have HBB : Hid (bb = true → 0 < L.length) := hbb
    clear hbb t0 t1 t4 hL0
    go_upto_if 47 with fail
    rw [← HE2.out.1, ← HE2.out.2]
    clear HE2
    go_cut [] from 40 (fun W => ∃ fr : St, Hid (RnS w b11 rb F (.slice (some ⟨db, do_, none⟩) L.length dc) L L [.int .i64 t.n, .int .i64 t.m, .int .i64 t.a, .int .i64 t.b, .bool t.f] fr W) ∧ Hid (fr = z0 ∨ ∃ s ∈ L, s.ts = fr))
    case first =>
      cases bb with
      | false =>
        go_wp2_with fail
        go_meet
        case rel => exact ⟨z0, HS, .inl rfl⟩
      | true =>
        have hL0 := HBB.out rfl
        obtain ⟨N, eN⟩ : ∃ N, L.length = N + 1 := ⟨L.length - 1, by omega⟩
        obtain ⟨s, es⟩ : ∃ s, s = L[N] := ⟨_, rfl⟩
        have hrow : ∀ j u, (slCells s)[j]? = some u → w2.cell? ⟨db, do_ + N * 4 + j, none⟩ = some u := HS.out.doc.ls.at4 (Below.refl _ _) (by omega) es
        have r0 : w2.cell? ⟨db, do_ + N * 4, none⟩ = some (.int .i64 s.ts.1) := hrow 0 _ rfl
        have r1 : w2.cell? ⟨db, do_ + N * 4 + 1, none⟩ = some (.int .i64 s.ts.2) := hrow 1 _ rfl
        have HMm : Hid (∃ y ∈ L, y.ts = s.ts) := ⟨s, by rw [es]; exact List.getElem_mem _, rfl⟩
        have n1 : IntKind.i64.wrap ((L.length : Int) - 1) = (N : Int) := by rw [IntKind.wrap_i64]; omega
        have n2 : (N : Int) < (L.length : Int) := by omega
        have n3 : (0 : Int) ≤ (N : Int) := by omega
        clear es eN hrow hL0
        go_wp2_with (refine wpList_store_row rfl 33 (.tmp 11) (.tmp 54) rfl b11 33 (stCells z0).toArray #[.int .i64 s.ts.1, .int .i64 s.ts.2] rfl rfl HS.out.frb sizeStamp rfl (by simp [Value.oneCell']) ?_)
        go_meet
        case rel => exact ⟨s.ts, HS.out.setFr s.ts, .inr HMm.out⟩
    case rest =>
      obtain ⟨fr, HS1, Hfr⟩ := hcut
      clear HS HBB
      have HS : Hid (RnS w b11 rb F (.slice (some ⟨db, do_, none⟩) L.length dc) L L [.int .i64 t.n, .int .i64 t.m, .int .i64 t.a, .int .i64 t.b, .bool t.f] fr wc) := HS1
      clear HS1
      obtain ⟨w3, ew3⟩ : ∃ X, X = wc := ⟨_, rfl⟩
      rw [← ew3] at HS ⊢
      clear ew3
      go_wp2_with fail
      go_loopw [12, 13, 14] (fun lv tv iv wr => ∃ i : Nat, iv = .int .i64 (i : Int) ∧ lv = .int .i64 (lastC (L.take i)) ∧ tv = .bool (their (L.take i)) ∧ i ≤ L.length ∧ w3 = wr) (fun _ _ iv _ => L.length - (intOf iv).toNat)
      case atStart => exact ⟨0, rfl, rfl, rfl, Nat.zero_le _, rfl⟩
      case round =>
        obtain ⟨i, rfl, rfl, rfl, hi, rfl⟩ := hrel
        by_cases hlt : i < L.length
        · obtain ⟨s, es⟩ : ∃ s, s = L[i] := ⟨_, rfl⟩
          have hrow : ∀ j u, (slCells s)[j]? = some u → w3.cell? ⟨db, do_ + i * 4 + j, none⟩ = some u := HS.out.doc.ls.at4 (Below.refl _ _) hlt es
          have r0 : w3.cell? ⟨db, do_ + i * 4, none⟩ = some (.int .i64 s.ts.1) := hrow 0 _ rfl
          have r1 : w3.cell? ⟨db, do_ + i * 4 + 1, none⟩ = some (.int .i64 s.ts.2) := hrow 1 _ rfl
          have hnx : L.take (i + 1) = L.take i ++ [s] := by rw [es]; exact List.take_succ_eq_append_getElem hlt
          have HNl : Hid (lastC (L.take (i + 1)) = max (lastC (L.take i)) s.ts.1) := by (show _ = _; rw [hnx, lastC_snoc])
          have HNt : Hid (their (L.take (i + 1)) = (their (L.take i) || decide (s.ts.2 = 20) || decide (s.ts.2 = 21))) := by (show _ = _; rw [hnx, their_snoc])
          clear hrow hnx es
          have k1 : (i : Int) < (L.length : Int) := by omega
          have k0 : (0 : Int) ≤ (i : Int) := by omega
          have n1 : IntKind.i64.wrap ((i : Int) + 1) = (i : Int) + 1 := by rw [IntKind.wrap_i64]; omega
          obtain ⟨la, ela⟩ : ∃ x, x = lastC (L.take i) := ⟨_, rfl⟩
          obtain ⟨th, eth⟩ : ∃ x, x = their (L.take i) := ⟨_, rfl⟩
          rw [← ela] at HNl ⊢
          rw [← eth] at HNt ⊢
          clear ela eth
          cases th with
          | true =>
            go_wp2
            go_roundw
            case rel => exact ⟨i + 1, by go_num, by (rw [HNl.out]), by (rw [HNt.out]; simp), by omega, (by first | rfl | trivial)⟩
            case measure => simp [intOf]; omega
          | false =>
            by_cases h20 : s.ts.2 = 20
            · have q20 : (s.ts.2 == 20) = true := by simp [h20]
              go_wp2
              go_roundw
              case rel => exact ⟨i + 1, by go_num, by (rw [HNl.out]), by (rw [HNt.out]; simp [h20]), by omega, (by first | rfl | trivial)⟩
              case measure => simp [intOf]; omega
            · have q20 : (s.ts.2 == 20) = false := by simpa using h20
              by_cases h21 : s.ts.2 = 21
              · have q21 : (s.ts.2 == 21) = true := by simp [h21]
                go_wp2
                go_roundw
                case rel => exact ⟨i + 1, by go_num, by (rw [HNl.out]), by (rw [HNt.out]; simp [h21]), by omega, (by first | rfl | trivial)⟩
                case measure => simp [intOf]; omega
              · have q21 : (s.ts.2 == 21) = false := by simpa using h21
                go_wp2
                go_roundw
                case rel => exact ⟨i + 1, by go_num, by (rw [HNl.out]), by (rw [HNt.out]; simp [h20, h21]), by omega, (by first | rfl | trivial)⟩
                case measure => simp [intOf]; omega
        · have ei : i = L.length := by omega
          subst i
          have HLe := lastC_le L
          have HLe2 : Hid (∀ s ∈ L, s.ts.1 ≤ lastC L) := HLe.2
          have hla0 := HLe.1
          have HTh : Hid (their L = false → ∀ s ∈ L, s.ts.2 ≠ 20 ∧ s.ts.2 ≠ 21) := their_no L
          rw [List.take_length]
          obtain ⟨la, ela⟩ : ∃ x, x = lastC L := ⟨_, rfl⟩
          obtain ⟨th, eth⟩ : ∃ x, x = their L := ⟨_, rfl⟩
          rw [← ela] at HLe2 hla0 ⊢
          rw [← eth] at HTh ⊢
          clear ela eth HLe hlt hi
          by_cases hbig : la ≤ 1099511627576
          rotate_left
          · have q : (1099511627576 : Int) < la := by omega
            go_wp2_with fail
            refine (awake_any _).mono ?_
            rintro e w9 ⟨rfl, hb⟩
            have HB : Hid (Below w.heap.size w w9) := HS.out.bel.trans (hb.mono HS.out.bel.size)
            clear hb HS
            go_wp2
            go_ret
            exact ⟨rfl, HB.out⟩
          have q : ¬ (1099511627576 : Int) < la := by omega
          have qd : decide ((1099511627576 : Int) < la) = false := decide_eq_false q
          cases th with
          | true =>
            go_wp2_with fail
            refine (awake_any _).mono ?_
            rintro e w9 ⟨rfl, hb⟩
            have HB : Hid (Below w.heap.size w w9) := HS.out.bel.trans (hb.mono HS.out.bel.size)
            clear hb HS
            go_wp2
            go_ret
            exact ⟨rfl, HB.out⟩
          | false =>
            have HNo : Hid (∀ s ∈ L, s.ts.2 ≠ 20 ∧ s.ts.2 ≠ 21) := HTh.out rfl
            clear HTh q qd
            obtain ⟨w5, ew5⟩ : ∃ X, X = ((w3.alloc (.cells #[] 36)).alloc (.cells #[] 36)).alloc (.cells (stCells fr).toArray 33) := ⟨_, rfl⟩
            obtain ⟨Wb, eWb⟩ : ∃ X, X = w3 := ⟨_, rfl⟩
            obtain ⟨gm0, egm⟩ : ∃ b, b = w3.heap.size := ⟨_, rfl⟩
            obtain ⟨gy, egy⟩ : ∃ b, b = w3.heap.size + 1 := ⟨_, rfl⟩
            obtain ⟨b17, eb17⟩ : ∃ b, b = w3.heap.size + 1 + 1 := ⟨_, rfl⟩
            have HB0 : Hid (RnB Wb (.slice (some ⟨gm0, 0, none⟩) 0 0) (.slice (some ⟨gy, 0, none⟩) 0 0) (chn 20 (la + 1 + (ka : Int)) fr 0) [] b17 fr w5) := (by rw [ew5, eWb, egm, egy, eb17]; exact RnB.new w3 fr)
            have HSb0 : Hid (RnS w b11 rb F (.slice (some ⟨db, do_, none⟩) L.length dc) L L [.int .i64 t.n, .int .i64 t.m, .int .i64 t.a, .int .i64 t.b, .bool t.f] fr Wb) := (by rw [eWb]; exact HS.out)
            have f0 : ((w3.alloc (.cells #[] 36)).alloc (.cells #[] 36)).cell? ⟨b11, 0, none⟩ = some (.int .i64 fr.1) := ((HS.out.below ((Below.refl _ _).alloc (Nat.le_refl _) _)).below ((Below.refl _ _).alloc (Nat.le_refl _) _)).frb.cell 0 _ rfl
            have f1 : ((w3.alloc (.cells #[] 36)).alloc (.cells #[] 36)).cell? ⟨b11, 1, none⟩ = some (.int .i64 fr.2) := ((HS.out.below ((Below.refl _ _).alloc (Nat.le_refl _) _)).below ((Below.refl _ _).alloc (Nat.le_refl _) _)).frb.cell 1 _ rfl
            have HE5 : Hid (w5 = ((w3.alloc (.cells #[] 36)).alloc (.cells #[] 36)).alloc (.cells #[.int .i64 fr.1, .int .i64 fr.2] 33) ∧ gm0 = w3.heap.size ∧ gy = w3.heap.size + 1 ∧ b17 = w3.heap.size + 1 + 1) := ⟨ew5, egm, egy, eb17⟩
            clear ew5 eWb egm egy eb17 HS
            have HS : Hid (RnS w b11 rb F (.slice (some ⟨db, do_, none⟩) L.length dc) L L [.int .i64 t.n, .int .i64 t.m, .int .i64 t.a, .int .i64 t.b, .bool t.f] fr Wb) := HSb0
            clear HSb0
            go_wp2
            rw [← HE5.out.1, ← HE5.out.2.2.2, ← HE5.out.2.2.1, ← HE5.out.2.1]
            clear HE5 f0 f1
            have eka := eka'.out
            go_loopw [15, 18] (fun mv iv wr => ∃ (i : Nat) (af : St), iv = .int .i64 (i : Int) ∧ i ≤ n ∧ Hid (RnB Wb mv (.slice (some ⟨gy, 0, none⟩) 0 0) (chn 20 (la + 1 + (ka : Int)) fr i) [] b17 af wr) ∧ Hid (af = (chS 20 (la + 1 + (ka : Int)) fr i).af)) (fun _ iv _ => n - (intOf iv).toNat)
            case atStart => exact ⟨0, fr, rfl, Nat.zero_le _, HB0, rfl⟩
            case round =>
              clear HB0
              obtain ⟨i, af, rfl, hi, HB, Haf⟩ := hrel
              obtain ⟨g0, c0, e0⟩ := HB.out.ms
              rw [chn_length] at e0
              subst e0
              by_cases hlt : i < n
              · have HSr : Hid (RnS w b11 rb F (.slice (some ⟨db, do_, none⟩) L.length dc) L L [.int .i64 t.n, .int .i64 t.m, .int .i64 t.a, .int .i64 t.b, .bool t.f] fr wr) := HS.out.below HB.out.bel
                have ta : wr.cell? ⟨w.heap.size, 2, none⟩ = some (.int .i64 t.a) := HSr.out.two.cell 2 _ rfl
                have a0 : wr.cell? ⟨b17, 0, none⟩ = some (.int .i64 af.1) := HB.out.ab.cell 0 _ rfl
                have a1 : wr.cell? ⟨b17, 1, none⟩ = some (.int .i64 af.2) := HB.out.ab.cell 1 _ rfl
                have k1 : (i : Int) < (n : Int) := by omega
                have n1 : IntKind.i64.wrap ((i : Int) + 1) = (i : Int) + 1 := by rw [IntKind.wrap_i64]; omega
                have n2 : IntKind.i64.wrap (la + 1) = la + 1 := by rw [IntKind.wrap_i64]; omega
                have n3 : IntKind.i64.wrap (la + 1 + (ka : Int)) = la + 1 + (ka : Int) := by rw [IntKind.wrap_i64]; omega
                have n4 : IntKind.i64.wrap (la + 1 + (ka : Int) + (i : Int)) = la + 1 + (ka : Int) + (i : Int) := by rw [IntKind.wrap_i64]; omega
                have hal1 : Below wr.heap.size wr (wr.alloc (.cells #[.int .i64 (la + 1 + (ka : Int) + (i : Int)), .int .i64 20, .int .i64 af.1, .int .i64 af.2] 36)) := (Below.refl _ _).alloc (Nat.le_refl _) _
                have hal2 : Below wr.heap.size wr ((wr.alloc (.cells #[.int .i64 (la + 1 + (ka : Int) + (i : Int)), .int .i64 20, .int .i64 af.1, .int .i64 af.2] 36)).alloc (.cells #[.int .i64 (la + 1 + (ka : Int) + (i : Int)), .int .i64 20, .int .i64 af.1, .int .i64 af.2] 36)) := hal1.alloc (by simp) _
                have HBx : Hid (RnB Wb (.slice (some ⟨g0, 0, none⟩) i c0) (.slice (some ⟨gy, 0, none⟩) 0 0) (chn 20 (la + 1 + (ka : Int)) fr i) [] b17 af ((wr.alloc (.cells #[.int .i64 (la + 1 + (ka : Int) + (i : Int)), .int .i64 20, .int .i64 af.1, .int .i64 af.2] 36)).alloc (.cells #[.int .i64 (la + 1 + (ka : Int) + (i : Int)), .int .i64 20, .int .i64 af.1, .int .i64 af.2] 36))) := HB.out.below hal2
                have HNw : Hid (∀ j u, ([.int .i64 (la + 1 + (ka : Int) + (i : Int)), .int .i64 20, .int .i64 af.1, .int .i64 af.2] : List Value)[j]? = some u → ((wr.alloc (.cells #[.int .i64 (la + 1 + (ka : Int) + (i : Int)), .int .i64 20, .int .i64 af.1, .int .i64 af.2] 36)).alloc (.cells #[.int .i64 (la + 1 + (ka : Int) + (i : Int)), .int .i64 20, .int .i64 af.1, .int .i64 af.2] 36)).cell? ((⟨wr.heap.size + 1, 0, none⟩ : Addr).add j) = some u) := fun j u hj => (by have h9 := heap_alloc_new (wr.alloc (.cells #[.int .i64 (la + 1 + (ka : Int) + (i : Int)), .int .i64 20, .int .i64 af.1, .int .i64 af.2] 36)) (.cells #[.int .i64 (la + 1 + (ka : Int) + (i : Int)), .int .i64 20, .int .i64 af.1, .int .i64 af.2] 36); rw [show (wr.alloc (.cells #[.int .i64 (la + 1 + (ka : Int) + (i : Int)), .int .i64 20, .int .i64 af.1, .int .i64 af.2] 36)).heap.size = wr.heap.size + 1 by simp] at h9; rw [Addr.add_lit, cell_of_row _ _ _ _ _ _ h9]; simpa using hj)
                have HSb : Hid (BxC wr.heap.size [.int .i64 (la + 1 + (ka : Int) + (i : Int)), .int .i64 20, .int .i64 af.1, .int .i64 af.2] 36 ((wr.alloc (.cells #[.int .i64 (la + 1 + (ka : Int) + (i : Int)), .int .i64 20, .int .i64 af.1, .int .i64 af.2] 36)).alloc (.cells #[.int .i64 (la + 1 + (ka : Int) + (i : Int)), .int .i64 20, .int .i64 af.1, .int .i64 af.2] 36))) := (BxC.new wr [.int .i64 (la + 1 + (ka : Int) + (i : Int)), .int .i64 20, .int .i64 af.1, .int .i64 af.2] 36).below ((Below.refl _ _).alloc (Nat.le_refl _) _)
                have hszp : Wb.heap.size ≤ ((wr.alloc (.cells #[.int .i64 (la + 1 + (ka : Int) + (i : Int)), .int .i64 20, .int .i64 af.1, .int .i64 af.2] 36)).alloc (.cells #[.int .i64 (la + 1 + (ka : Int) + (i : Int)), .int .i64 20, .int .i64 af.1, .int .i64 af.2] 36)).heap.size := HBx.out.bel.size
                have s0 : (wr.alloc (.cells #[.int .i64 (la + 1 + (ka : Int) + (i : Int)), .int .i64 20, .int .i64 af.1, .int .i64 af.2] 36)).cell? ⟨wr.heap.size, 0, none⟩ = some (.int .i64 (la + 1 + (ka : Int) + (i : Int))) := (BxC.new wr [.int .i64 (la + 1 + (ka : Int) + (i : Int)), .int .i64 20, .int .i64 af.1, .int .i64 af.2] 36).cell 0 _ rfl
                have s1 : (wr.alloc (.cells #[.int .i64 (la + 1 + (ka : Int) + (i : Int)), .int .i64 20, .int .i64 af.1, .int .i64 af.2] 36)).cell? ⟨wr.heap.size, 1, none⟩ = some (.int .i64 20) := (BxC.new wr [.int .i64 (la + 1 + (ka : Int) + (i : Int)), .int .i64 20, .int .i64 af.1, .int .i64 af.2] 36).cell 1 _ rfl
                have s2 : (wr.alloc (.cells #[.int .i64 (la + 1 + (ka : Int) + (i : Int)), .int .i64 20, .int .i64 af.1, .int .i64 af.2] 36)).cell? ⟨wr.heap.size, 2, none⟩ = some (.int .i64 af.1) := (BxC.new wr [.int .i64 (la + 1 + (ka : Int) + (i : Int)), .int .i64 20, .int .i64 af.1, .int .i64 af.2] 36).cell 2 _ rfl
                have s3 : (wr.alloc (.cells #[.int .i64 (la + 1 + (ka : Int) + (i : Int)), .int .i64 20, .int .i64 af.1, .int .i64 af.2] 36)).cell? ⟨wr.heap.size, 3, none⟩ = some (.int .i64 af.2) := (BxC.new wr [.int .i64 (la + 1 + (ka : Int) + (i : Int)), .int .i64 20, .int .i64 af.1, .int .i64 af.2] 36).cell 3 _ rfl
                have HXq : Hid ((⟨(la + 1 + (ka : Int) + (i : Int), 20), af⟩ : Sl) = chS 20 (la + 1 + (ka : Int)) fr i) := by (show _ = _; rw [Haf.out]; rfl)
                have HAn : Hid ((la + 1 + (ka : Int) + (i : Int), (20 : Int)) = (chS 20 (la + 1 + (ka : Int)) fr (i + 1)).af) := by (show _ = _; unfold chS chT; simp)
                have hml : (chn 20 (la + 1 + (ka : Int)) fr i).length = i := chn_length _ _ _ _
                clear hal1 hal2
                go_wp2_with (first
                  | (at_builtin; refine wpList_append_own_at _ rfl _ _ 22 rfl Wb.heap.size 36 isl (.agg #[.int .i64 0, .int .i64 0, .int .i64 0, .int .i64 0]) 4 32 Try.underlying22 hisl hz0sl hz1sl hz2sl rfl (by decide) _ _ _ (by first | rfl | (rw [hml])) HBx.out.mo ⟨wr.heap.size + 1, 0, none⟩ 1 1 [.int .i64 (la + 1 + (ka : Int) + (i : Int)), .int .i64 20, .int .i64 af.1, .int .i64 af.2] rfl rfl HNw.out (slCells_one ⟨(la + 1 + (ka : Int) + (i : Int), 20), af⟩) (by unfold maxLen; omega) (by omega) hszp ?_; intro v3 w3 hown3 hgrow3 hnil3 hat3; obtain ⟨g3, c3, e3⟩ := own_succ hown3; subst e3; have HB3 : Hid (RnB Wb (.slice (some ⟨g3, 0, none⟩) ((chn 20 (la + 1 + (ka : Int)) fr i).length + 1) c3) (.slice (some ⟨gy, 0, none⟩) 0 0) ((chn 20 (la + 1 + (ka : Int)) fr i) ++ [⟨(la + 1 + (ka : Int) + (i : Int), 20), af⟩]) [] b17 af w3) := HBx.out.push hown3 hgrow3 hat3; have HS3 : Hid (BxC wr.heap.size [.int .i64 (la + 1 + (ka : Int) + (i : Int)), .int .i64 20, .int .i64 af.1, .int .i64 af.2] 36 w3) := HSb.out.keep (hgrow3.block _ HSb.out.lt (fun e => Nat.lt_irrefl _ ((HB.out.mo.lt _ e.symm).2))); have x0 : w3.cell? ⟨wr.heap.size, 0, none⟩ = some (.int .i64 (la + 1 + (ka : Int) + (i : Int))) := HS3.out.cell 0 _ rfl; have x1 : w3.cell? ⟨wr.heap.size, 1, none⟩ = some (.int .i64 20) := HS3.out.cell 1 _ rfl; clear hown3 hgrow3 hnil3 hat3 HBx HNw HSb s0 s1 s2 s3)
                  | (refine wpList_store_row rfl 33 (.tmp 17) (.tmp 120) rfl b17 33 (stCells af).toArray #[.int .i64 (la + 1 + (ka : Int) + (i : Int)), .int .i64 20] rfl rfl HB3.out.ab sizeStamp rfl (by simp [Value.oneCell']) ?_))
                have HB4 : Hid (RnB Wb (.slice (some ⟨g3, 0, none⟩) (i + 1) c3) (.slice (some ⟨gy, 0, none⟩) 0 0) (chn 20 (la + 1 + (ka : Int)) fr (i + 1)) [] b17 (la + 1 + (ka : Int) + (i : Int), 20) (w3.setRow b17 #[.int .i64 (la + 1 + (ka : Int) + (i : Int)), .int .i64 20])) := (by have h9 := HB3.out.setAf (la + 1 + (ka : Int) + (i : Int), 20); rw [hml, HXq.out, ← chn_succ] at h9; exact h9)
                (try rw [hml])
                clear HB3 HS3 x0 x1 hml
                go_roundw
                case rel => exact ⟨i + 1, _, by go_num, by omega, HB4, HAn⟩
                case measure => simp [intOf]; omega
              · have ei : i = n := by omega
                subst i
                clear Haf hlt hi
                clear eka
                have HSr : Hid (RnS w b11 rb F (.slice (some ⟨db, do_, none⟩) L.length dc) L L [.int .i64 t.n, .int .i64 t.m, .int .i64 t.a, .int .i64 t.b, .bool t.f] fr wr) := HS.out.below HB.out.bel
                have f0 : wr.cell? ⟨b11, 0, none⟩ = some (.int .i64 fr.1) := HSr.out.frb.cell 0 _ rfl
                have f1 : wr.cell? ⟨b11, 1, none⟩ = some (.int .i64 fr.2) := HSr.out.frb.cell 1 _ rfl
                obtain ⟨w6, ew6⟩ : ∃ X, X = wr.setRow b17 #[.int .i64 fr.1, .int .i64 fr.2] := ⟨_, rfl⟩
                have HB0 : Hid (RnB Wb (.slice (some ⟨gy, 0, none⟩) 0 0) (.slice (some ⟨g0, 0, none⟩) n c0) (chn 21 (la + 1 + (kb : Int)) fr 0) (chn 20 (la + 1 + (ka : Int)) fr n) b17 fr w6) := (by rw [ew6]; exact HB.out.swap.setAf fr)
                have HE6 : Hid (w6 = wr.setRow b17 #[.int .i64 fr.1, .int .i64 fr.2]) := ew6
                clear ew6 HSr
                go_wp2_with (refine wpList_store_row rfl 33 (.tmp 17) (.tmp 121) rfl b17 33 (stCells af).toArray #[.int .i64 fr.1, .int .i64 fr.2] rfl rfl HB.out.ab sizeStamp rfl (by simp [Value.oneCell']) ?_)
                rw [← HE6.out]
                clear HE6 HB f0 f1
                obtain ⟨gm, egm⟩ : ∃ x, x = g0 := ⟨_, rfl⟩
                obtain ⟨cm, ecm⟩ : ∃ x, x = c0 := ⟨_, rfl⟩
                rw [← egm, ← ecm] at HB0 ⊢
                clear egm ecm
                have ekb := ekb'.out
                go_loopw [16, 20] (fun mv iv wr => ∃ (i : Nat) (af : St), iv = .int .i64 (i : Int) ∧ i ≤ m ∧ Hid (RnB Wb mv (.slice (some ⟨gm, 0, none⟩) n cm) (chn 21 (la + 1 + (kb : Int)) fr i) (chn 20 (la + 1 + (ka : Int)) fr n) b17 af wr) ∧ Hid (af = (chS 21 (la + 1 + (kb : Int)) fr i).af)) (fun _ iv _ => m - (intOf iv).toNat)
                case atStart => exact ⟨0, fr, rfl, Nat.zero_le _, HB0, rfl⟩
                case round =>
                  clear HB0
                  obtain ⟨i, af, rfl, hi, HB, Haf⟩ := hrel
                  obtain ⟨g0, c0, e0⟩ := HB.out.ms
                  rw [chn_length] at e0
                  subst e0
                  by_cases hlt : i < m
                  · have HSr : Hid (RnS w b11 rb F (.slice (some ⟨db, do_, none⟩) L.length dc) L L [.int .i64 t.n, .int .i64 t.m, .int .i64 t.a, .int .i64 t.b, .bool t.f] fr wr) := HS.out.below HB.out.bel
                    have ta : wr.cell? ⟨w.heap.size, 3, none⟩ = some (.int .i64 t.b) := HSr.out.two.cell 3 _ rfl
                    have a0 : wr.cell? ⟨b17, 0, none⟩ = some (.int .i64 af.1) := HB.out.ab.cell 0 _ rfl
                    have a1 : wr.cell? ⟨b17, 1, none⟩ = some (.int .i64 af.2) := HB.out.ab.cell 1 _ rfl
                    have k1 : (i : Int) < (m : Int) := by omega
                    have n1 : IntKind.i64.wrap ((i : Int) + 1) = (i : Int) + 1 := by rw [IntKind.wrap_i64]; omega
                    have n2 : IntKind.i64.wrap (la + 1) = la + 1 := by rw [IntKind.wrap_i64]; omega
                    have n3 : IntKind.i64.wrap (la + 1 + (kb : Int)) = la + 1 + (kb : Int) := by rw [IntKind.wrap_i64]; omega
                    have n4 : IntKind.i64.wrap (la + 1 + (kb : Int) + (i : Int)) = la + 1 + (kb : Int) + (i : Int) := by rw [IntKind.wrap_i64]; omega
                    have hal1 : Below wr.heap.size wr (wr.alloc (.cells #[.int .i64 (la + 1 + (kb : Int) + (i : Int)), .int .i64 21, .int .i64 af.1, .int .i64 af.2] 36)) := (Below.refl _ _).alloc (Nat.le_refl _) _
                    have hal2 : Below wr.heap.size wr ((wr.alloc (.cells #[.int .i64 (la + 1 + (kb : Int) + (i : Int)), .int .i64 21, .int .i64 af.1, .int .i64 af.2] 36)).alloc (.cells #[.int .i64 (la + 1 + (kb : Int) + (i : Int)), .int .i64 21, .int .i64 af.1, .int .i64 af.2] 36)) := hal1.alloc (by simp) _
                    have HBx : Hid (RnB Wb (.slice (some ⟨g0, 0, none⟩) i c0) (.slice (some ⟨gm, 0, none⟩) n cm) (chn 21 (la + 1 + (kb : Int)) fr i) (chn 20 (la + 1 + (ka : Int)) fr n) b17 af ((wr.alloc (.cells #[.int .i64 (la + 1 + (kb : Int) + (i : Int)), .int .i64 21, .int .i64 af.1, .int .i64 af.2] 36)).alloc (.cells #[.int .i64 (la + 1 + (kb : Int) + (i : Int)), .int .i64 21, .int .i64 af.1, .int .i64 af.2] 36))) := HB.out.below hal2
                    have HNw : Hid (∀ j u, ([.int .i64 (la + 1 + (kb : Int) + (i : Int)), .int .i64 21, .int .i64 af.1, .int .i64 af.2] : List Value)[j]? = some u → ((wr.alloc (.cells #[.int .i64 (la + 1 + (kb : Int) + (i : Int)), .int .i64 21, .int .i64 af.1, .int .i64 af.2] 36)).alloc (.cells #[.int .i64 (la + 1 + (kb : Int) + (i : Int)), .int .i64 21, .int .i64 af.1, .int .i64 af.2] 36)).cell? ((⟨wr.heap.size + 1, 0, none⟩ : Addr).add j) = some u) := fun j u hj => (by have h9 := heap_alloc_new (wr.alloc (.cells #[.int .i64 (la + 1 + (kb : Int) + (i : Int)), .int .i64 21, .int .i64 af.1, .int .i64 af.2] 36)) (.cells #[.int .i64 (la + 1 + (kb : Int) + (i : Int)), .int .i64 21, .int .i64 af.1, .int .i64 af.2] 36); rw [show (wr.alloc (.cells #[.int .i64 (la + 1 + (kb : Int) + (i : Int)), .int .i64 21, .int .i64 af.1, .int .i64 af.2] 36)).heap.size = wr.heap.size + 1 by simp] at h9; rw [Addr.add_lit, cell_of_row _ _ _ _ _ _ h9]; simpa using hj)
                    have HSb : Hid (BxC wr.heap.size [.int .i64 (la + 1 + (kb : Int) + (i : Int)), .int .i64 21, .int .i64 af.1, .int .i64 af.2] 36 ((wr.alloc (.cells #[.int .i64 (la + 1 + (kb : Int) + (i : Int)), .int .i64 21, .int .i64 af.1, .int .i64 af.2] 36)).alloc (.cells #[.int .i64 (la + 1 + (kb : Int) + (i : Int)), .int .i64 21, .int .i64 af.1, .int .i64 af.2] 36))) := (BxC.new wr [.int .i64 (la + 1 + (kb : Int) + (i : Int)), .int .i64 21, .int .i64 af.1, .int .i64 af.2] 36).below ((Below.refl _ _).alloc (Nat.le_refl _) _)
                    have hszp : Wb.heap.size ≤ ((wr.alloc (.cells #[.int .i64 (la + 1 + (kb : Int) + (i : Int)), .int .i64 21, .int .i64 af.1, .int .i64 af.2] 36)).alloc (.cells #[.int .i64 (la + 1 + (kb : Int) + (i : Int)), .int .i64 21, .int .i64 af.1, .int .i64 af.2] 36)).heap.size := HBx.out.bel.size
                    have s0 : (wr.alloc (.cells #[.int .i64 (la + 1 + (kb : Int) + (i : Int)), .int .i64 21, .int .i64 af.1, .int .i64 af.2] 36)).cell? ⟨wr.heap.size, 0, none⟩ = some (.int .i64 (la + 1 + (kb : Int) + (i : Int))) := (BxC.new wr [.int .i64 (la + 1 + (kb : Int) + (i : Int)), .int .i64 21, .int .i64 af.1, .int .i64 af.2] 36).cell 0 _ rfl
                    have s1 : (wr.alloc (.cells #[.int .i64 (la + 1 + (kb : Int) + (i : Int)), .int .i64 21, .int .i64 af.1, .int .i64 af.2] 36)).cell? ⟨wr.heap.size, 1, none⟩ = some (.int .i64 21) := (BxC.new wr [.int .i64 (la + 1 + (kb : Int) + (i : Int)), .int .i64 21, .int .i64 af.1, .int .i64 af.2] 36).cell 1 _ rfl
                    have s2 : (wr.alloc (.cells #[.int .i64 (la + 1 + (kb : Int) + (i : Int)), .int .i64 21, .int .i64 af.1, .int .i64 af.2] 36)).cell? ⟨wr.heap.size, 2, none⟩ = some (.int .i64 af.1) := (BxC.new wr [.int .i64 (la + 1 + (kb : Int) + (i : Int)), .int .i64 21, .int .i64 af.1, .int .i64 af.2] 36).cell 2 _ rfl
                    have s3 : (wr.alloc (.cells #[.int .i64 (la + 1 + (kb : Int) + (i : Int)), .int .i64 21, .int .i64 af.1, .int .i64 af.2] 36)).cell? ⟨wr.heap.size, 3, none⟩ = some (.int .i64 af.2) := (BxC.new wr [.int .i64 (la + 1 + (kb : Int) + (i : Int)), .int .i64 21, .int .i64 af.1, .int .i64 af.2] 36).cell 3 _ rfl
                    have HXq : Hid ((⟨(la + 1 + (kb : Int) + (i : Int), 21), af⟩ : Sl) = chS 21 (la + 1 + (kb : Int)) fr i) := by (show _ = _; rw [Haf.out]; rfl)
                    have HAn : Hid ((la + 1 + (kb : Int) + (i : Int), (21 : Int)) = (chS 21 (la + 1 + (kb : Int)) fr (i + 1)).af) := by (show _ = _; unfold chS chT; simp)
                    have hml : (chn 21 (la + 1 + (kb : Int)) fr i).length = i := chn_length _ _ _ _
                    clear hal1 hal2
                    go_wp2_with (first
                      | (at_builtin; refine wpList_append_own_at _ rfl _ _ 22 rfl Wb.heap.size 36 isl (.agg #[.int .i64 0, .int .i64 0, .int .i64 0, .int .i64 0]) 4 32 Try.underlying22 hisl hz0sl hz1sl hz2sl rfl (by decide) _ _ _ (by first | rfl | (rw [hml])) HBx.out.mo ⟨wr.heap.size + 1, 0, none⟩ 1 1 [.int .i64 (la + 1 + (kb : Int) + (i : Int)), .int .i64 21, .int .i64 af.1, .int .i64 af.2] rfl rfl HNw.out (slCells_one ⟨(la + 1 + (kb : Int) + (i : Int), 21), af⟩) (by unfold maxLen; omega) (by omega) hszp ?_; intro v3 w3 hown3 hgrow3 hnil3 hat3; obtain ⟨g3, c3, e3⟩ := own_succ hown3; subst e3; have HB3 : Hid (RnB Wb (.slice (some ⟨g3, 0, none⟩) ((chn 21 (la + 1 + (kb : Int)) fr i).length + 1) c3) (.slice (some ⟨gm, 0, none⟩) n cm) ((chn 21 (la + 1 + (kb : Int)) fr i) ++ [⟨(la + 1 + (kb : Int) + (i : Int), 21), af⟩]) (chn 20 (la + 1 + (ka : Int)) fr n) b17 af w3) := HBx.out.push hown3 hgrow3 hat3; have HS3 : Hid (BxC wr.heap.size [.int .i64 (la + 1 + (kb : Int) + (i : Int)), .int .i64 21, .int .i64 af.1, .int .i64 af.2] 36 w3) := HSb.out.keep (hgrow3.block _ HSb.out.lt (fun e => Nat.lt_irrefl _ ((HB.out.mo.lt _ e.symm).2))); have x0 : w3.cell? ⟨wr.heap.size, 0, none⟩ = some (.int .i64 (la + 1 + (kb : Int) + (i : Int))) := HS3.out.cell 0 _ rfl; have x1 : w3.cell? ⟨wr.heap.size, 1, none⟩ = some (.int .i64 21) := HS3.out.cell 1 _ rfl; clear hown3 hgrow3 hnil3 hat3 HBx HNw HSb s0 s1 s2 s3)
                      | (refine wpList_store_row rfl 33 (.tmp 17) (.tmp 145) rfl b17 33 (stCells af).toArray #[.int .i64 (la + 1 + (kb : Int) + (i : Int)), .int .i64 21] rfl rfl HB3.out.ab sizeStamp rfl (by simp [Value.oneCell']) ?_))
                    have HB4 : Hid (RnB Wb (.slice (some ⟨g3, 0, none⟩) (i + 1) c3) (.slice (some ⟨gm, 0, none⟩) n cm) (chn 21 (la + 1 + (kb : Int)) fr (i + 1)) (chn 20 (la + 1 + (ka : Int)) fr n) b17 (la + 1 + (kb : Int) + (i : Int), 21) (w3.setRow b17 #[.int .i64 (la + 1 + (kb : Int) + (i : Int)), .int .i64 21])) := (by have h9 := HB3.out.setAf (la + 1 + (kb : Int) + (i : Int), 21); rw [hml, HXq.out, ← chn_succ] at h9; exact h9)
                    (try rw [hml])
                    clear HB3 HS3 x0 x1 hml
                    go_roundw
                    case rel => exact ⟨i + 1, _, by go_num, by omega, HB4, HAn⟩
                    case measure => simp [intOf]; omega
                  · have ei : i = m := by omega
                    subst i
                    clear Haf hlt hi
                    clear ekb
                    obtain ⟨gy1, egy⟩ : ∃ x, x = g0 := ⟨_, rfl⟩
                    obtain ⟨cy, ecy⟩ : ∃ x, x = c0 := ⟨_, rfl⟩
                    rw [← egy, ← ecy] at HB ⊢
                    clear egy ecy
                    have HS0 : Hid (RnS w b11 rb F (.slice (some ⟨db, do_, none⟩) L.length dc) L L [.int .i64 t.n, .int .i64 t.m, .int .i64 t.a, .int .i64 t.b, .bool t.f] fr wr) := HS.out.below HB.out.bel
                    have HT0 : Hid (RnT w b11 rb F (.slice (some ⟨db, do_, none⟩) L.length dc) L L [.int .i64 t.n, .int .i64 t.m, .int .i64 t.a, .int .i64 t.b, .bool t.f] fr (.slice (some ⟨gm, 0, none⟩) n cm) (.slice (some ⟨gy1, 0, none⟩) m cy) (chF 20 (la + 1 + (ka : Int)) fr 0 n) (chF 21 (la + 1 + (kb : Int)) fr 0 m) wr) := (by rw [chF_zero, chF_zero]; exact ⟨HS0.out, ⟨HB.out.yo.lsE slCells_len (by rw [chn_length]; omega) (fun k e hF => by (have h1 := HS.out.row.lt k hF; have h2 := (HB.out.yo.lt k e).1; omega)), gm, 0, cm, by rw [chn_length]⟩, ⟨HB.out.mo.lsE slCells_len (by rw [chn_length]; omega) (fun k e hF => by (have h1 := HS.out.row.lt k hF; have h2 := (HB.out.mo.lt k e).1; omega)), gy1, 0, cy, by rw [chn_length]⟩⟩)
                    have HP0 : Hid (TwoP L la (la + 1 + (ka : Int)) (la + 1 + (kb : Int)) fr 0 0 L) := TwoP.start HG.out HLe2.out HNo.out hla0 (by omega) (by omega) Hfr.out
                    clear HB HS HS0 HLe2 HNo Hfr
                    go_wp2
                    go_loopw [15, 16, 22] (fun mv yv tv wr => ∃ (i j : Nat) (Lx : List Sl) (F1 : Nat → Prop), i ≤ n ∧ j ≤ m ∧ tv = .int .i64 ((i + j : Nat) : Int) ∧ Hid (RnT w b11 rb F1 (.slice (some ⟨db, do_, none⟩) L.length dc) Lx L [.int .i64 t.n, .int .i64 t.m, .int .i64 t.a, .int .i64 t.b, .bool t.f] fr mv yv (chF 20 (la + 1 + (ka : Int)) fr i n) (chF 21 (la + 1 + (kb : Int)) fr j m) wr) ∧ Hid (TwoP L la (la + 1 + (ka : Int)) (la + 1 + (kb : Int)) fr i j Lx)) (fun mv yv _ _ => sliceN mv + sliceN yv)
                    case atStart => exact ⟨0, 0, L, F, Nat.zero_le _, Nat.zero_le _, rfl, HT0, HP0⟩
                    case round =>
                      clear HT0 HP0
                      obtain ⟨i, j, Lx, F1, hi, hj, rfl, HT, HP⟩ := hrel
                      obtain ⟨bm, om, c1m, e1⟩ := HT.out.m.sm
                      obtain ⟨by_, oy, c1y, e2⟩ := HT.out.y.sm
                      rw [chF_length] at e1 e2
                      subst e1
                      subst e2
                      obtain ⟨q, eq⟩ : ∃ q, q = i + j := ⟨_, rfl⟩
                      rw [← eq]
                      obtain ⟨nm, enm⟩ : ∃ x, x = n - i := ⟨_, rfl⟩
                      obtain ⟨ny, eny⟩ : ∃ x, x = m - j := ⟨_, rfl⟩
                      rw [← enm, ← eny]
                      rw [← enm, ← eny] at HT
                      have HEq : Hid (q = i + j) := eq
                      have hq1 : q ≤ i + j := by omega
                      have hnm1 : nm + i ≤ n := by omega
                      have hnm2 : n ≤ nm + i := by omega
                      have hny1 : ny + j ≤ m := by omega
                      have hny2 : m ≤ ny + j := by omega
                      clear eq enm eny
                      have HLx : Hid (Lx.length ≤ 200) := by (show _ ≤ _; have := HP.out.len; omega)
                      by_cases hdone : 0 < nm + ny
                      · have h1 : (0 : Int) < (nm : Int) + (ny : Int) := by omega
                        have h2 : IntKind.i64.wrap ((nm : Int) + (ny : Int)) = (nm : Int) + (ny : Int) := by rw [IntKind.wrap_i64]; omega
                        go_upto_region 35 with fail
                        clear h1 h2
                        go_cut [15, 16, 23] from 154 to 202 (fun mv yv v W => mv = .slice (some ⟨bm, om, none⟩) nm c1m ∧ yv = .slice (some ⟨by_, oy, none⟩) ny c1y ∧ ∃ bb : Bool, v = .bool bb ∧ (bb = true → 0 < nm) ∧ (bb = false → 0 < ny) ∧ wr = W)
                        case first =>
                          by_cases hy : ny = 0
                          · have qy : ((ny : Int) == 0) = true := by simp [hy]
                            have hm0 : 0 < nm := by omega
                            have Hy : Hid (ny = 0) := hy
                            clear hy
                            go_wp2_with fail
                            go_meet
                            case rel => exact ⟨rfl, (by first | rfl | rw [Hy.out]), true, rfl, (fun _ => hm0), (fun e => nomatch e), rfl⟩
                          · have qy : ((ny : Int) == 0) = false := by simpa using hy
                            have hy0 : 0 < ny := by omega
                            clear hy
                            by_cases hm0 : 0 < nm
                            · have qm : (0 : Int) < (nm : Int) := by omega
                              by_cases hto : q < od.length
                              · obtain ⟨b9, o9, rfl, hb9, hrow2⟩ := HOr.out.resolve_left (by intro e; subst e; simp at hto)
                                have q9 := (HT.out.st.bel.cell (p := ⟨b9, o9 + q, none⟩) hb9).trans (hrow2 q hto)
                                have t1 : (q : Int) < (od.length : Int) := by omega
                                have t0 : (0 : Int) ≤ (q : Int) := by omega
                                clear hrow2 hb9
                                obtain ⟨z, ez⟩ : ∃ z, z = od[q] := ⟨_, rfl⟩
                                rw [← ez] at q9
                                clear ez
                                go_wp2_with fail
                                go_meet
                                case rel => exact ⟨rfl, rfl, _, rfl, (fun _ => hm0), (fun _ => hy0), rfl⟩
                              · have t1 : ¬ (q : Int) < (od.length : Int) := by omega
                                have t2 : decide ((q : Int) < (od.length : Int)) = false := decide_eq_false t1
                                go_wp2_with fail
                                go_meet
                                case rel => exact ⟨(by first | rfl | rw [Hm.out]), rfl, false, rfl, (fun e => nomatch e), (fun _ => hy0), rfl⟩
                            · have qm : ¬ (0 : Int) < (nm : Int) := by omega
                              have qm2 : decide ((0 : Int) < (nm : Int)) = false := decide_eq_false qm
                              have Hm : Hid (nm = 0) := (by show _ = _; omega)
                              clear hm0
                              go_wp2_with fail
                              go_meet
                              case rel => exact ⟨(by first | rfl | rw [Hm.out]), rfl, false, rfl, (fun e => nomatch e), (fun _ => hy0), rfl⟩
                        case rest =>
                          obtain ⟨rfl, rfl, bb, rfl, hb1, hb2, rfl⟩ := hcut
                          cases bb with
                          | true =>
                            have hlt : i < n := by (have := hb1 rfl; omega)
                            clear hb1 hb2
                            obtain ⟨x, ex⟩ : ∃ x, x = chS 20 (la + 1 + (ka : Int)) fr i := ⟨_, rfl⟩
                            obtain ⟨D, eD⟩ : ∃ D, D = (chF 20 (la + 1 + (ka : Int)) fr (i + 1) n) := ⟨_, rfl⟩
                            have enp : nm = D.length + 1 := by rw [eD, chF_length]; omega
                            subst nm
                            have hcons : (chF 20 (la + 1 + (ka : Int)) fr i n) = x :: D := by rw [ex, eD]; exact chF_cons _ _ _ hlt
                            rw [hcons] at HT
                            have hAd := HP.out.one (by omega)
                            rw [← ex] at hAd
                            have HAc : Hid (addC Lx x = 0) := hAd.1
                            have HPn : Hid (TwoP L la (la + 1 + (ka : Int)) (la + 1 + (kb : Int)) fr (i + 1) j (addL Lx x)) := hAd.2
                            obtain ⟨hcap, hx, b2, o2, eAd, htl⟩ := HT.out.m.tail
                            have HAd := hide9 eAd
                            have HDe : Hid (D = (chF 20 (la + 1 + (ka : Int)) fr (i + 1) n)) := eD
                            have HTl : Hid (LsN (fun j => ¬ F1 j) wr (.slice (some ⟨b2, o2, none⟩) D.length (c1m - 1)) D) := htl
                            have HX2 : Hid (∀ j u, (slCells x)[j]? = some u → wr.drew.cell? ⟨bm, om + j, none⟩ = some u) := hx
                            have HTx : Hid (RnT w b11 rb F1 (.slice (some ⟨db, do_, none⟩) L.length dc) Lx L [.int .i64 t.n, .int .i64 t.m, .int .i64 t.a, .int .i64 t.b, .bool t.f] fr (.slice (some ⟨b2, o2, none⟩) D.length (c1m - 1)) (.slice (some ⟨by_, oy, none⟩) ny c1y) D (chF 21 (la + 1 + (kb : Int)) fr j m) wr) := HT.out.drop HTl.out
                            have HBlt : Hid (bm < wr.heap.size ∧ ¬ F1 bm) := HT.out.m.ls.at_blk
                            clear htl hx hAd hcons HT HP eD eAd HTl ex
                            have p0 : (0 : Int) < (D.length : Int) + 1 := by omega
                            have p1 : (1 : Int) ≤ (D.length : Int) + 1 := by omega
                            have p2 : 1 ≤ D.length + 1 := by omega
                            have HSz : Hid (wr.heap.size ≤ wr.heap.size) := Nat.le_refl _
                            go_wp2
                            refine wp_region_held_drew (S := fun W' => ∀ j u, (slCells x)[j]? = some u → W'.cell? ⟨bm, om + j, none⟩ = some u) (by kernel_rfl) HX2.out (fun hHeld => ?_)
                            obtain ⟨Uo11u0, eW⟩ : ∃ X, X = wr.drew := ⟨_, rfl⟩
                            have hb : Below wr.heap.size wr Uo11u0 := by rw [eW]; exact (Below.refl _ _).drew
                            replace HTx : Hid (RnT w b11 rb F1 (.slice (some ⟨db, do_, none⟩) L.length dc) Lx L [.int .i64 t.n, .int .i64 t.m, .int .i64 t.a, .int .i64 t.b, .bool t.f] fr (.slice (some ⟨b2, o2, none⟩) D.length (c1m - 1)) (.slice (some ⟨by_, oy, none⟩) ny c1y) D (chF 21 (la + 1 + (kb : Int)) fr j m) Uo11u0) := HTx.out.below hb
                            replace HSz : Hid (wr.heap.size ≤ Uo11u0.heap.size) := Nat.le_trans HSz.out hb.size
                            rw [← eW] at hHeld ⊢
                            clear eW hb
                            refine tkW 0 (some 177) (v := ?_) ?_ hHeld ?_
                            rotate_left
                            · (intro ww _; go_simp; try with_reducible rfl)
                            refine tkW 1 (some 178) (v := ?_) ?_ hHeld ?_
                            rotate_left
                            · (intro ww _; go_simp; try with_reducible rfl)
                            refine tkW 2 (some 179) (v := ?_) ?_ hHeld ?_
                            rotate_left
                            · (intro ww hSw; (try dsimp only at hSw); have x0 : ww.cell? ⟨bm, om, none⟩ = some (.int .i64 x.ts.1) := hSw 0 _ rfl; have x1 : ww.cell? ⟨bm, om + 1, none⟩ = some (.int .i64 x.ts.2) := hSw 1 _ rfl; have x2 : ww.cell? ⟨bm, om + 2, none⟩ = some (.int .i64 x.af.1) := hSw 2 _ rfl; have x3 : ww.cell? ⟨bm, om + 3, none⟩ = some (.int .i64 x.af.2) := hSw 3 _ rfl; go_simp; try with_reducible rfl)
                            refine tkW 3 (some 180) (v := ?_) ?_ hHeld ?_
                            rotate_left
                            · (intro ww _; go_simp; try with_reducible rfl)
                            refine tkW 4 (some 181) (v := ?_) ?_ hHeld ?_
                            rotate_left
                            · (intro ww hSw; (try dsimp only at hSw); have x0 : ww.cell? ⟨bm, om, none⟩ = some (.int .i64 x.ts.1) := hSw 0 _ rfl; have x1 : ww.cell? ⟨bm, om + 1, none⟩ = some (.int .i64 x.ts.2) := hSw 1 _ rfl; have x2 : ww.cell? ⟨bm, om + 2, none⟩ = some (.int .i64 x.af.1) := hSw 2 _ rfl; have x3 : ww.cell? ⟨bm, om + 3, none⟩ = some (.int .i64 x.af.2) := hSw 3 _ rfl; go_simp; try with_reducible rfl)
                            refine tkW 5 (some 182) (v := ?_) ?_ hHeld ?_
                            rotate_left
                            · (intro ww _; go_simp; try with_reducible rfl)
                            refine tkW 6 (some 183) (v := ?_) ?_ hHeld ?_
                            rotate_left
                            · (intro ww hSw; (try dsimp only at hSw); have x0 : ww.cell? ⟨bm, om, none⟩ = some (.int .i64 x.ts.1) := hSw 0 _ rfl; have x1 : ww.cell? ⟨bm, om + 1, none⟩ = some (.int .i64 x.ts.2) := hSw 1 _ rfl; have x2 : ww.cell? ⟨bm, om + 2, none⟩ = some (.int .i64 x.af.1) := hSw 2 _ rfl; have x3 : ww.cell? ⟨bm, om + 3, none⟩ = some (.int .i64 x.af.2) := hSw 3 _ rfl; go_simp; try with_reducible rfl)
                            refine tkW 7 (some 184) (v := ?_) ?_ hHeld ?_
                            rotate_left
                            · (intro ww _; go_simp; try with_reducible rfl)
                            refine tkW 8 (some 185) (v := ?_) ?_ hHeld ?_
                            rotate_left
                            · (intro ww hSw; (try dsimp only at hSw); have x0 : ww.cell? ⟨bm, om, none⟩ = some (.int .i64 x.ts.1) := hSw 0 _ rfl; have x1 : ww.cell? ⟨bm, om + 1, none⟩ = some (.int .i64 x.ts.2) := hSw 1 _ rfl; have x2 : ww.cell? ⟨bm, om + 2, none⟩ = some (.int .i64 x.af.1) := hSw 2 _ rfl; have x3 : ww.cell? ⟨bm, om + 3, none⟩ = some (.int .i64 x.af.2) := hSw 3 _ rfl; go_simp; try with_reducible rfl)
                            refine wpAnyH_ready (rs := [9]) (by kernel_rfl) (by simp) ?_
                            refine AllReadyH.cons (o := ⟨some 186, _, _, _, _, _⟩) rfl (fun K hK => ?_) AllReadyH.nil
                            go_simp
                            refine (add_any F1 rb Lx x _ HTx.out.st.row (by have := HLx.out; omega)).mono ?_
                            rintro e Uo11u1 hd
                            obtain ⟨he, hd2⟩ := id hd
                            rw [HAc.out] at he
                            subst he
                            (try go_wp2_with fail)
                            obtain ⟨F2, hT2⟩ := HTx.out.did hd
                            obtain ⟨_, _, _, _, hto⟩ := hd2
                            have hR2 : ∀ j u, (slCells x)[j]? = some u → Uo11u1.cell? ⟨bm, om + j, none⟩ = some u := fun j u hj => (World.cell?_of_block (w := Uo11u0) (hto.block _ (Nat.lt_of_lt_of_le HBlt.out.1 HSz.out) HBlt.out.2)).trans (hHeld j u hj)
                            replace HTx : Hid (RnT w b11 rb F2 (.slice (some ⟨db, do_, none⟩) L.length dc) (addL Lx x) L [.int .i64 t.n, .int .i64 t.m, .int .i64 t.a, .int .i64 t.b, .bool t.f] fr (.slice (some ⟨b2, o2, none⟩) D.length (c1m - 1)) (.slice (some ⟨by_, oy, none⟩) ny c1y) D (chF 21 (la + 1 + (kb : Int)) fr j m) Uo11u1) := hT2
                            clear hd hT2 hto
                            refine hK.out _ _ (hR2) (fun hHeld2 => ?_)
                            clear hK K hHeld
                            have hHeld := hHeld2
                            clear hHeld2
                            (try simp only [Act.put, List.setIfInBounds_toArray, List.set_cons_zero, List.set_cons_succ])
                            refine tkW 10 (some 187) (v := ?_) ?_ hHeld ?_
                            rotate_left
                            · (intro ww hSw; (try dsimp only at hSw); have x0 : ww.cell? ⟨bm, om, none⟩ = some (.int .i64 x.ts.1) := hSw 0 _ rfl; have x1 : ww.cell? ⟨bm, om + 1, none⟩ = some (.int .i64 x.ts.2) := hSw 1 _ rfl; have x2 : ww.cell? ⟨bm, om + 2, none⟩ = some (.int .i64 x.af.1) := hSw 2 _ rfl; have x3 : ww.cell? ⟨bm, om + 3, none⟩ = some (.int .i64 x.af.2) := hSw 3 _ rfl; go_simp; try with_reducible rfl)
                            refine wpAnyH_done (by kernel_rfl) ?_ _
                            clear hHeld
                            have nq : IntKind.i64.wrap ((q : Int) + 1) = (q : Int) + 1 := by rw [IntKind.wrap_i64]; omega
                            by_cases hc1 : c1m = 1
                            · subst c1m
                              have h9 := HAd.out
                              simp at h9
                              obtain ⟨rfl, rfl⟩ := h9
                              clear HAd hcap
                              go_wp2
                              go_roundw
                              case rel => exact ⟨i + 1, j, addL Lx x, F2, by omega, by omega, (by rw [HEq.out]; go_num), (by rw [← HDe.out]; exact HTx), HPn⟩
                              case measure => (simp [sliceN] <;> omega)
                            · have h9 := HAd.out
                              rw [if_neg hc1] at h9
                              simp at h9
                              obtain ⟨rfl, rfl⟩ := h9
                              clear HAd
                              go_wp2
                              go_roundw
                              case rel => exact ⟨i + 1, j, addL Lx x, F2, by omega, by omega, (by rw [HEq.out]; go_num), (by rw [← HDe.out]; exact HTx), HPn⟩
                              case measure => (simp [sliceN] <;> omega)
                          | false =>
                            have hlt : j < m := by (have := hb2 rfl; omega)
                            clear hb1 hb2
                            obtain ⟨x, ex⟩ : ∃ x, x = chS 21 (la + 1 + (kb : Int)) fr j := ⟨_, rfl⟩
                            obtain ⟨D, eD⟩ : ∃ D, D = (chF 21 (la + 1 + (kb : Int)) fr (j + 1) m) := ⟨_, rfl⟩
                            have enp : ny = D.length + 1 := by rw [eD, chF_length]; omega
                            subst ny
                            have hcons : (chF 21 (la + 1 + (kb : Int)) fr j m) = x :: D := by rw [ex, eD]; exact chF_cons _ _ _ hlt
                            rw [hcons] at HT
                            have hAd := HP.out.other (by omega)
                            rw [← ex] at hAd
                            have HAc : Hid (addC Lx x = 0) := hAd.1
                            have HPn : Hid (TwoP L la (la + 1 + (ka : Int)) (la + 1 + (kb : Int)) fr i (j + 1) (addL Lx x)) := hAd.2
                            obtain ⟨hcap, hx, b2, o2, eAd, htl⟩ := HT.out.y.tail
                            have HAd := hide9 eAd
                            have HDe : Hid (D = (chF 21 (la + 1 + (kb : Int)) fr (j + 1) m)) := eD
                            have HTl : Hid (LsN (fun j => ¬ F1 j) wr (.slice (some ⟨b2, o2, none⟩) D.length (c1y - 1)) D) := htl
                            have HX2 : Hid (∀ j u, (slCells x)[j]? = some u → wr.drew.cell? ⟨by_, oy + j, none⟩ = some u) := hx
                            have HTx : Hid (RnT w b11 rb F1 (.slice (some ⟨db, do_, none⟩) L.length dc) Lx L [.int .i64 t.n, .int .i64 t.m, .int .i64 t.a, .int .i64 t.b, .bool t.f] fr (.slice (some ⟨bm, om, none⟩) nm c1m) (.slice (some ⟨b2, o2, none⟩) D.length (c1y - 1)) (chF 20 (la + 1 + (ka : Int)) fr i n) D wr) := (HT.out.swap.drop HTl.out).swap
                            have HBlt : Hid (by_ < wr.heap.size ∧ ¬ F1 by_) := HT.out.y.ls.at_blk
                            clear htl hx hAd hcons HT HP eD eAd HTl ex
                            have p0 : (0 : Int) < (D.length : Int) + 1 := by omega
                            have p1 : (1 : Int) ≤ (D.length : Int) + 1 := by omega
                            have p2 : 1 ≤ D.length + 1 := by omega
                            have HSz : Hid (wr.heap.size ≤ wr.heap.size) := Nat.le_refl _
                            go_wp2
                            refine wp_region_held_drew (S := fun W' => ∀ j u, (slCells x)[j]? = some u → W'.cell? ⟨by_, oy + j, none⟩ = some u) (by kernel_rfl) HX2.out (fun hHeld => ?_)
                            obtain ⟨Uo12u0, eW⟩ : ∃ X, X = wr.drew := ⟨_, rfl⟩
                            have hb : Below wr.heap.size wr Uo12u0 := by rw [eW]; exact (Below.refl _ _).drew
                            replace HTx : Hid (RnT w b11 rb F1 (.slice (some ⟨db, do_, none⟩) L.length dc) Lx L [.int .i64 t.n, .int .i64 t.m, .int .i64 t.a, .int .i64 t.b, .bool t.f] fr (.slice (some ⟨bm, om, none⟩) nm c1m) (.slice (some ⟨b2, o2, none⟩) D.length (c1y - 1)) (chF 20 (la + 1 + (ka : Int)) fr i n) D Uo12u0) := HTx.out.below hb
                            replace HSz : Hid (wr.heap.size ≤ Uo12u0.heap.size) := Nat.le_trans HSz.out hb.size
                            rw [← eW] at hHeld ⊢
                            clear eW hb
                            refine tkW 0 (some 190) (v := ?_) ?_ hHeld ?_
                            rotate_left
                            · (intro ww _; go_simp; try with_reducible rfl)
                            refine tkW 1 (some 191) (v := ?_) ?_ hHeld ?_
                            rotate_left
                            · (intro ww _; go_simp; try with_reducible rfl)
                            refine tkW 2 (some 192) (v := ?_) ?_ hHeld ?_
                            rotate_left
                            · (intro ww hSw; (try dsimp only at hSw); have x0 : ww.cell? ⟨by_, oy, none⟩ = some (.int .i64 x.ts.1) := hSw 0 _ rfl; have x1 : ww.cell? ⟨by_, oy + 1, none⟩ = some (.int .i64 x.ts.2) := hSw 1 _ rfl; have x2 : ww.cell? ⟨by_, oy + 2, none⟩ = some (.int .i64 x.af.1) := hSw 2 _ rfl; have x3 : ww.cell? ⟨by_, oy + 3, none⟩ = some (.int .i64 x.af.2) := hSw 3 _ rfl; go_simp; try with_reducible rfl)
                            refine tkW 3 (some 193) (v := ?_) ?_ hHeld ?_
                            rotate_left
                            · (intro ww _; go_simp; try with_reducible rfl)
                            refine tkW 4 (some 194) (v := ?_) ?_ hHeld ?_
                            rotate_left
                            · (intro ww hSw; (try dsimp only at hSw); have x0 : ww.cell? ⟨by_, oy, none⟩ = some (.int .i64 x.ts.1) := hSw 0 _ rfl; have x1 : ww.cell? ⟨by_, oy + 1, none⟩ = some (.int .i64 x.ts.2) := hSw 1 _ rfl; have x2 : ww.cell? ⟨by_, oy + 2, none⟩ = some (.int .i64 x.af.1) := hSw 2 _ rfl; have x3 : ww.cell? ⟨by_, oy + 3, none⟩ = some (.int .i64 x.af.2) := hSw 3 _ rfl; go_simp; try with_reducible rfl)
                            refine tkW 5 (some 195) (v := ?_) ?_ hHeld ?_
                            rotate_left
                            · (intro ww _; go_simp; try with_reducible rfl)
                            refine tkW 6 (some 196) (v := ?_) ?_ hHeld ?_
                            rotate_left
                            · (intro ww hSw; (try dsimp only at hSw); have x0 : ww.cell? ⟨by_, oy, none⟩ = some (.int .i64 x.ts.1) := hSw 0 _ rfl; have x1 : ww.cell? ⟨by_, oy + 1, none⟩ = some (.int .i64 x.ts.2) := hSw 1 _ rfl; have x2 : ww.cell? ⟨by_, oy + 2, none⟩ = some (.int .i64 x.af.1) := hSw 2 _ rfl; have x3 : ww.cell? ⟨by_, oy + 3, none⟩ = some (.int .i64 x.af.2) := hSw 3 _ rfl; go_simp; try with_reducible rfl)
                            refine tkW 7 (some 197) (v := ?_) ?_ hHeld ?_
                            rotate_left
                            · (intro ww _; go_simp; try with_reducible rfl)
                            refine tkW 8 (some 198) (v := ?_) ?_ hHeld ?_
                            rotate_left
                            · (intro ww hSw; (try dsimp only at hSw); have x0 : ww.cell? ⟨by_, oy, none⟩ = some (.int .i64 x.ts.1) := hSw 0 _ rfl; have x1 : ww.cell? ⟨by_, oy + 1, none⟩ = some (.int .i64 x.ts.2) := hSw 1 _ rfl; have x2 : ww.cell? ⟨by_, oy + 2, none⟩ = some (.int .i64 x.af.1) := hSw 2 _ rfl; have x3 : ww.cell? ⟨by_, oy + 3, none⟩ = some (.int .i64 x.af.2) := hSw 3 _ rfl; go_simp; try with_reducible rfl)
                            refine wpAnyH_ready (rs := [9]) (by kernel_rfl) (by simp) ?_
                            refine AllReadyH.cons (o := ⟨some 199, _, _, _, _, _⟩) rfl (fun K hK => ?_) AllReadyH.nil
                            go_simp
                            refine (add_any F1 rb Lx x _ HTx.out.st.row (by have := HLx.out; omega)).mono ?_
                            rintro e Uo12u1 hd
                            obtain ⟨he, hd2⟩ := id hd
                            rw [HAc.out] at he
                            subst he
                            (try go_wp2_with fail)
                            obtain ⟨F2, hT2⟩ := HTx.out.did hd
                            obtain ⟨_, _, _, _, hto⟩ := hd2
                            have hR2 : ∀ j u, (slCells x)[j]? = some u → Uo12u1.cell? ⟨by_, oy + j, none⟩ = some u := fun j u hj => (World.cell?_of_block (w := Uo12u0) (hto.block _ (Nat.lt_of_lt_of_le HBlt.out.1 HSz.out) HBlt.out.2)).trans (hHeld j u hj)
                            replace HTx : Hid (RnT w b11 rb F2 (.slice (some ⟨db, do_, none⟩) L.length dc) (addL Lx x) L [.int .i64 t.n, .int .i64 t.m, .int .i64 t.a, .int .i64 t.b, .bool t.f] fr (.slice (some ⟨bm, om, none⟩) nm c1m) (.slice (some ⟨b2, o2, none⟩) D.length (c1y - 1)) (chF 20 (la + 1 + (ka : Int)) fr i n) D Uo12u1) := hT2
                            clear hd hT2 hto
                            refine hK.out _ _ (hR2) (fun hHeld2 => ?_)
                            clear hK K hHeld
                            have hHeld := hHeld2
                            clear hHeld2
                            (try simp only [Act.put, List.setIfInBounds_toArray, List.set_cons_zero, List.set_cons_succ])
                            refine tkW 10 (some 200) (v := ?_) ?_ hHeld ?_
                            rotate_left
                            · (intro ww hSw; (try dsimp only at hSw); have x0 : ww.cell? ⟨by_, oy, none⟩ = some (.int .i64 x.ts.1) := hSw 0 _ rfl; have x1 : ww.cell? ⟨by_, oy + 1, none⟩ = some (.int .i64 x.ts.2) := hSw 1 _ rfl; have x2 : ww.cell? ⟨by_, oy + 2, none⟩ = some (.int .i64 x.af.1) := hSw 2 _ rfl; have x3 : ww.cell? ⟨by_, oy + 3, none⟩ = some (.int .i64 x.af.2) := hSw 3 _ rfl; go_simp; try with_reducible rfl)
                            refine wpAnyH_done (by kernel_rfl) ?_ _
                            clear hHeld
                            have nq : IntKind.i64.wrap ((q : Int) + 1) = (q : Int) + 1 := by rw [IntKind.wrap_i64]; omega
                            by_cases hc1 : c1y = 1
                            · subst c1y
                              have h9 := HAd.out
                              simp at h9
                              obtain ⟨rfl, rfl⟩ := h9
                              clear HAd hcap
                              go_wp2
                              go_roundw
                              case rel => exact ⟨i, j + 1, addL Lx x, F2, by omega, by omega, (by rw [HEq.out]; go_num), (by rw [← HDe.out]; exact HTx), HPn⟩
                              case measure => (simp [sliceN] <;> omega)
                            · have h9 := HAd.out
                              rw [if_neg hc1] at h9
                              simp at h9
                              obtain ⟨rfl, rfl⟩ := h9
                              clear HAd
                              go_wp2
                              go_roundw
                              case rel => exact ⟨i, j + 1, addL Lx x, F2, by omega, by omega, (by rw [HEq.out]; go_num), (by rw [← HDe.out]; exact HTx), HPn⟩
                              case measure => (simp [sliceN] <;> omega)
                      · have en : nm = 0 := by omega
                        have ey : ny = 0 := by omega
                        have ei : i = n := by omega
                        have ej : j = m := by omega
                        have HR1 : Hid (RunOk (ordL Lx) 20 n) := (by have h9 := HP.out.run1; rw [ei] at h9; exact h9)
                        have HR2 : Hid (RunOk (ordL Lx) 21 m) := (by have h9 := HP.out.run2; rw [ej] at h9; exact h9)
                        have HGx : Hid (GoodL Lx) := HP.out.good
                        have HLo : Hid ((ordL Lx).length ≤ 200) := by (show _ ≤ _; rw [ord_length HGx.out]; exact HLx.out)
                        have HCx : Hid (∀ x ∈ ordL Lx, 0 ≤ x.1 ∧ x.1 ≤ 1099511627776) := fun x hx => ord_bound HGx.out hx
                        have HU : Hid (RnS w b11 rb F1 (.slice (some ⟨db, do_, none⟩) L.length dc) Lx L [.int .i64 t.n, .int .i64 t.m, .int .i64 t.a, .int .i64 t.b, .bool t.f] fr wr) := HT.out.st
                        clear HT HP ei ej hi hj hnm1 hnm2 hny1 hny2 hdone
                        subst en
                        subst ey
                        go_wp2_with fail
                        refine (order_any F1 _ Lx _ HU.out.row.rv).mono ?_
                        rintro e x1 ⟨u, rfl, ho, hb⟩
                        replace HU : Hid (RnS w b11 rb F1 (.slice (some ⟨db, do_, none⟩) L.length dc) Lx L [.int .i64 t.n, .int .i64 t.m, .int .i64 t.a, .int .i64 t.b, .bool t.f] fr x1) := HU.out.below hb
                        obtain ⟨oa, oc, eo⟩ := ho.form
                        subst eo
                        have HO : Hid (LsE stCells 2 (fun _ => True) x1 (.slice oa (ordL Lx).length oc) (ordL Lx)) := ho.lsE stCells_len (by have := HLo.out; omega) (fun _ _ => trivial)
                        clear ho hb
                        go_wp2_with fail
                        refine (row_any (fun _ => True) _ (ordL Lx) 20 n _ HO.out (by have := HLo.out; omega) HR1.out HCx.out).mono ?_
                        rintro e y1 ⟨rfl, hb⟩
                        replace HU : Hid (RnS w b11 rb F1 (.slice (some ⟨db, do_, none⟩) L.length dc) Lx L [.int .i64 t.n, .int .i64 t.m, .int .i64 t.a, .int .i64 t.b, .bool t.f] fr y1) := HU.out.below hb
                        clear hb HO
                        go_wp2_with fail
                        refine (order_any F1 _ Lx _ HU.out.row.rv).mono ?_
                        rintro e x2 ⟨u, rfl, ho, hb⟩
                        replace HU : Hid (RnS w b11 rb F1 (.slice (some ⟨db, do_, none⟩) L.length dc) Lx L [.int .i64 t.n, .int .i64 t.m, .int .i64 t.a, .int .i64 t.b, .bool t.f] fr x2) := HU.out.below hb
                        obtain ⟨oa, oc, eo⟩ := ho.form
                        subst eo
                        have HO : Hid (LsE stCells 2 (fun _ => True) x2 (.slice oa (ordL Lx).length oc) (ordL Lx)) := ho.lsE stCells_len (by have := HLo.out; omega) (fun _ _ => trivial)
                        clear ho hb
                        go_wp2_with fail
                        refine (row_any (fun _ => True) _ (ordL Lx) 21 m _ HO.out (by have := HLo.out; omega) HR2.out HCx.out).mono ?_
                        rintro e y2 ⟨rfl, hb⟩
                        replace HU : Hid (RnS w b11 rb F1 (.slice (some ⟨db, do_, none⟩) L.length dc) Lx L [.int .i64 t.n, .int .i64 t.m, .int .i64 t.a, .int .i64 t.b, .bool t.f] fr y2) := HU.out.below hb
                        clear hb HO
                        go_wp2_with fail
                        refine (awake_any _).mono ?_
                        rintro e w9 ⟨rfl, hb⟩
                        have HBz : Hid (Below w.heap.size w w9) := HU.out.bel.trans (hb.mono HU.out.bel.size)
                        clear hb HU
                        go_wp2
                        go_ret
                        exact ⟨rfl, HBz.out⟩

end Go.Proofs.Ytfgkdbidgbpobaa
