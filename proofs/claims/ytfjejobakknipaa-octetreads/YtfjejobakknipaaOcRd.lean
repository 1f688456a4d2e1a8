/- OctetReads: any readings of any bytes: what they tell, the place, the error and where it is, what is left. -/
import Derived.Test.YtfjejobakknipaaOcJ
import Derived.Test.YtfjejobakknipaaOcPu
namespace Go.Proofs.Ytfjejobakknipaa
open Go.RowKit
set_option linter.unusedVariables false

/-- From block b, offset o on lie these steps. -/
def StepsAt (w : World) (b o : Nat) (d : List (Int × Int)) : Prop :=
  ∀ i (h : i < d.length), w.cell? ⟨b, o + i * 2, none⟩ = some (.int .i64 d[i].1) ∧ w.cell? ⟨b, o + i * 2 + 1, none⟩ = some (.int .i64 d[i].2)
theorem StepsAt.below {w w' : World} {b o : Nat} {d : List (Int × Int)} (h : StepsAt w b o d) (hb : Below w.heap.size w w') : StepsAt w' b o d := by
  intro i hi
  have h0 := h i hi
  have hlt : b < w.heap.size := World.block_lt_of_cell? w _ h0.1
  exact ⟨(hb.cell (p := ⟨b, o + i * 2, none⟩) hlt).trans h0.1, (hb.cell (p := ⟨b, o + i * 2 + 1, none⟩) hlt).trans h0.2⟩
/-- The value is a slice of these steps. -/
def IsP (w : World) (v : Value) (d : List (Int × Int)) : Prop :=
  ∃ (a : Option Addr) (cap : Nat), v = .slice a d.length cap ∧ d.length ≤ cap ∧ d.length ≤ 8796093022208 ∧ (d = [] ∨ ∃ b o, a = some ⟨b, o, none⟩ ∧ StepsAt w b o d)

/-- The document's reader in its block; it is neither the reader's block nor its bytes'. -/
def RefAt (w : World) (X : Nat) (a : Option Addr) (n cap k : Nat) (y : Int) : Prop := Four w X (.slice a n cap) (.int .i64 (k : Int)) (.int .i64 y) (.int .i64 (badL k y))
theorem RefAt.lt {w : World} {X : Nat} {a : Option Addr} {n cap k : Nat} {y : Int} (h : RefAt w X a n cap k y) : X < w.heap.size := (Array.getElem?_eq_some_iff.1 (show w.heap[X]? = _ from h)).1
theorem RefAt.ne {w : World} {X g : Nat} {a : Option Addr} {n cap k : Nat} {y : Int} {L : Nat} {p : List UInt8} {k' : Nat} {y' : Int} (h : RefAt w X a n cap k y) (hr : RdIs L w g p k' y') : X ≠ g := by
  intro e
  subst e
  obtain ⟨_, _, h1, _⟩ := hr
  have h2 : w.heap[X]? = _ := h
  rw [h1] at h2
  injection h2 with h2
  injection h2 with h2 h3 _
  exact absurd h3 (by decide)
theorem RefAt.other {w w' : World} {X g : Nat} {a : Option Addr} {n cap k : Nat} {y : Int} (h : RefAt w X a n cap k y) (hg : w.grownBy w' (some g)) (hne : X ≠ g) : RefAt w' X a n cap k y := by
  have hb := hg.block X h.lt (fun e => hne (by injection e))
  exact hb.trans h
theorem RefAt.below {w w' : World} {X : Nat} {a : Option Addr} {n cap k : Nat} {y : Int} (h : RefAt w X a n cap k y) (hb : Below w.heap.size w w') : RefAt w' X a n cap k y := Four.below h hb h.lt
theorem RefAt.drewN {w : World} {X : Nat} {a : Option Addr} {n cap k : Nat} {y : Int} (h : RefAt w X a n cap k y) (m : Nat) : RefAt (w.drewN m) X a n cap k y := h
/-- The document's reader is written over: the program's one stays. -/
theorem RdIs.refStore {L g X : Nat} {w w' : World} {p : List UInt8} {k : Nat} {y : Int} {a : Option Addr} {n cap k2 : Nat} {y2 : Int} (h : RdIs L w g p k y) (hX : RefAt w X a n cap k2 y2) (hg : w.grownBy w' (some X)) : RdIs L w' g p k y := by
  have hne := hX.ne h
  have hlt := h.lt
  obtain ⟨a', cap', h1, h2, h3, h4, h5, h6⟩ := h
  refine ⟨a', cap', (hg.block g hlt (fun e => hne (by injection e with e; exact e.symm))).trans h1, h2, h3, h4, h5, ?_⟩
  by_cases hp : p = []
  · exact .inl hp
  · obtain ⟨b, o, e, hb, hbg, hB⟩ := h6.resolve_left hp
    have hbX : b ≠ X := by
      intro e
      subst e
      have hp0 : 0 < p.length := List.length_pos_iff.2 hp
      have hc := hB 0 hp0
      have h7 : w.heap[b]? = some (.cells #[.slice a n cap, .int .i64 (k2 : Int), .int .i64 y2, .int .i64 (badL k2 y2)] 37) := hX
      have ho : o = 0 ∨ o = 1 ∨ o = 2 ∨ o = 3 ∨ 4 ≤ o := by omega
      rcases ho with rfl | rfl | rfl | rfl | h8
      · simp [World.cell?, h7] at hc
      · simp [World.cell?, h7] at hc
      · simp [World.cell?, h7] at hc
      · simp [World.cell?, h7] at hc
      · simp [World.cell?, h7, h8] at hc
    exact .inr ⟨b, o, e, hb, hbg, hB.block (hg.block b (hB.lt hp) (fun e => hbX (by injection e)))⟩
theorem RefAt.store {w : World} {X : Nat} {a : Option Addr} {n cap k : Nat} {y : Int} (h : RefAt w X a n cap k y) (k2 : Nat) (y2 : Int) :
    RefAt ((((w.setCell ⟨X, 0, none⟩ (.slice a n cap)).setCell ⟨X, 1, none⟩ (.int .i64 (k2 : Int))).setCell ⟨X, 2, none⟩ (.int .i64 y2)).setCell ⟨X, 3, none⟩ (.int .i64 (badL k2 y2))) X a n cap k2 y2 ∧
    w.grownBy ((((w.setCell ⟨X, 0, none⟩ (.slice a n cap)).setCell ⟨X, 1, none⟩ (.int .i64 (k2 : Int))).setCell ⟨X, 2, none⟩ (.int .i64 y2)).setCell ⟨X, 3, none⟩ (.int .i64 (badL k2 y2))) (some X) := by
  have h1 : w.heap[X]? = some (.cells #[.slice a n cap, .int .i64 (k : Int), .int .i64 y, .int .i64 (badL k y)] 37) := h
  have h2 := heap_set_same (i := 0) h1 0 (.slice a n cap)
  have h3 := heap_set_same (i := 1) h2 0 (.int .i64 (k2 : Int))
  have h4 := heap_set_same (i := 2) h3 0 (.int .i64 y2)
  have h5 := heap_set_same (i := 3) h4 0 (.int .i64 (badL k2 y2))
  refine ⟨h5, ?_⟩
  exact grownBy.trans2 (grownBy.trans2 (grownBy.trans2 (grownBy.set w 0 X 0) (grownBy.set _ 0 X 1)) (grownBy.set _ 0 X 2)) (grownBy.set _ 0 X 3)
theorem rdC_at {p : List UInt8} {k : Nat} {y most : Int} (hk : k ≤ p.length) : (rdC p k y most).2.1 ≤ p.length := by
  unfold rdC
  by_cases hy : y = 0
  · rw [if_pos hy]
    have hq := cntL_len (p := p.drop k) (most := most)
    rw [List.length_drop] at hq
    generalize cntL (p.drop k) most = c at *
    obtain ⟨n, s, e⟩ := c
    simp only at hq ⊢
    split <;> simp only <;> omega
  · rw [if_neg hy]; exact hk
theorem rdT_at {p : List UInt8} {k : Nat} {y most : Int} (hk : k ≤ p.length) : (rdT p k y most).2.1 ≤ p.length := by
  unfold rdT
  by_cases hy : y = 0
  · rw [if_pos hy]
    have hq := cntL_len (p := p.drop k) (most := most)
    rw [List.length_drop] at hq
    generalize cntL (p.drop k) most = c at *
    obtain ⟨n, s, e⟩ := c
    simp only at hq ⊢
    split
    · split <;> simp only <;> omega
    · simp only; omega
  · rw [if_neg hy]; exact hk
theorem RefAt.facts {w : World} {X : Nat} {a : Option Addr} {n cap k : Nat} {y : Int} (h : RefAt w X a n cap k y) :
    w.cell? ⟨X, 0, none⟩ = some (.slice a n cap) ∧ w.cell? ⟨X, 1, none⟩ = some (.int .i64 (k : Int)) ∧ w.cell? ⟨X, 2, none⟩ = some (.int .i64 y) ∧ w.cell? ⟨X, 3, none⟩ = some (.int .i64 (badL k y)) ∧ (∀ i, w.frozen? ⟨X, i, none⟩ = false) := Four.facts h

set_option maxRecDepth 100000 in
set_option maxHeartbeats 8000000 in
theorem octetReads_walk (vp : Value) (p : List UInt8) (vl : Value) (d : List (Int × Int)) (w : World) (h0 : IsB w vp p) (h1 : IsP w vl d) :
    Calls Try.prog 4 #[vp, vl] w fun e w' => e = .returned (.bool true) ∧ Below w.heap.size w w' := by
  have hl := h0.len
  have HV : Hid (IsB w vp p) := h0
  obtain ⟨a0, c0, rfl, hc0, _, r0⟩ := h0
  obtain ⟨a1, c1, rfl, hc1, hl1, r1⟩ := h1
  have HR1 : Hid (d = [] ∨ ∃ b o, a1 = some ⟨b, o, none⟩ ∧ StepsAt w b o d) := r1
  clear r0 r1
  go_enter Try.func4, Try.ntmps4
  go_wp2_with (at_builtin; refine wpList_copyE rfl _ _ rfl _ p rfl rfl HV.out ?_; intro v1 w1 ho1 hb1)
  obtain ⟨ag, cg, rfl⟩ := ho1.form
  have HO1 : Hid (OwnB w.heap.size w1 (.slice ag p.length cg) p) := ho1
  have HB1 : Hid (Below w.heap.size w w1) := hb1
  have hgk : Hid (∀ k, (Value.slice ag p.length cg).ownBlock = some k → w.heap.size ≤ k ∧ k < w1.heap.size) := fun k e => World.ownsRow.lt ho1 k e
  clear ho1 hb1
  refine (new_any _ p _ (HO1.out.isB hl)).mono ?_
  rintro e w2 ⟨g, rfl, hr2, hb2⟩
  have HG2 : Hid (RdIs w1.heap.size w2 g p 0 0) := hr2
  have HB2 : Hid (Below w.heap.size w w2) := HB1.out.trans (hb2.mono HB1.out.size)
  have HO2 : Hid (OwnB w.heap.size w2 (.slice ag p.length cg) p) := HO1.out.below hb2
  have hs1 := HB1.out.size
  have hs2 : w1.heap.size ≤ w2.heap.size := hb2.size
  have HX3 : Hid (RefAt (w2.alloc (.cells #[.slice a0 p.length c0, .int .i64 0, .int .i64 0, .int .i64 0] 37)) w2.heap.size a0 p.length c0 0 0) := heap_alloc_new _ _
  have HG3 : Hid (RdIs w1.heap.size (w2.alloc (.cells #[.slice a0 p.length c0, .int .i64 0, .int .i64 0, .int .i64 0] 37)) g p 0 0) := HG2.out.alloc _
  have HO3 : Hid (OwnB w.heap.size (w2.alloc (.cells #[.slice a0 p.length c0, .int .i64 0, .int .i64 0, .int .i64 0] 37)) (.slice ag p.length cg) p) := HO2.out.below ((Below.refl _ _).alloc (Nat.le_refl _) _)
  have HB3 : Hid (Below w.heap.size w (w2.alloc (.cells #[.slice a0 p.length c0, .int .i64 0, .int .i64 0, .int .i64 0] 37))) := HB2.out.alloc HB2.out.size _
  clear hr2 hb2
  go_wp2
  go_loopw [8] (fun i wr => ∃ (k : Nat) (D : List UInt8), k ≤ p.length ∧ i = .int .i64 (k : Int) ∧ Hid (D.length = p.length) ∧ Hid (OwnB w.heap.size wr (.slice ag D.length cg) D) ∧ Hid (RdIs w1.heap.size wr g p 0 0) ∧ Hid (RefAt wr w2.heap.size a0 p.length c0 0 0) ∧ Hid (Below w.heap.size w wr)) (fun i _ => p.length - (intOf i).toNat)
  case atStart => exact ⟨0, p, Nat.zero_le _, rfl, rfl, HO3, HG3, HX3, HB3⟩
  case round =>
    obtain ⟨k, E, hk, rfl, HDl, HO, HG, HX, HB⟩ := hrel
    by_cases hlt : k < p.length
    · have hltD : k < E.length := by rw [HDl.out]; exact hlt
      rcases HO.out.2 with ⟨e5, hn5⟩ | ⟨gb, cap5, cur, e5, hg5, _⟩
      · omega
      · injection e5 with e6 _ e7
        subst e6
        obtain ⟨x1, f1⟩ := HO.out.cell rfl hltD
        have k1 : (k : Int) < (p.length : Int) := by omega
        have k0 : (0 : Int) ≤ (k : Int) := by omega
        have hc := UInt8.toNat_lt E[k]
        have HFE : Hid ((255 : Int) - (E[k].toNat : Int) = ((UInt8.ofNat (255 - E[k].toNat)).toNat : Int)) := flip_eq _
        have HWr : Hid (OwnB w.heap.size (wr.setCell ⟨gb, k, none⟩ (.int .u8 ((UInt8.ofNat (255 - E[k].toNat)).toNat : Int))) (.slice (some ⟨gb, 0, none⟩) E.length cg) (E.set k (UInt8.ofNat (255 - E[k].toNat))) ∧ wr.grownBy (wr.setCell ⟨gb, k, none⟩ (.int .u8 ((UInt8.ofNat (255 - E[k].toNat)).toNat : Int))) (some gb)) := HO.out.write k _
        generalize E[k].toNat = c at *
        go_wp2
        rw [HFE.out]
        obtain ⟨hw1, hw2⟩ := HWr.out
        have hgg := hgk.out gb rfl
        go_roundw
        case rel =>
          refine ⟨k + 1, E.set k (UInt8.ofNat (255 - c)), by omega, by go_num, ?_, ?_, HG.out.other hw2 hgg.2, HX.out.other hw2 (by omega), HB.out.grown hw2 HB.out.size (fun j e => ?_)⟩
          · show _ = _
            rw [List.length_set]; exact HDl.out
          · show OwnB _ _ _ _
            rw [List.length_set]; exact hw1
          · injection e with e
            subst e
            exact hgg.1
        case measure => simp [intOf]; omega
    · have HG4 : Hid (RdIs w1.heap.size wr g p 0 0) := HG.out
      have HX4 : Hid (RefAt wr w2.heap.size a0 p.length c0 0 0) := HX.out
      have HB4 : Hid (Below w.heap.size w wr) := HB.out
      clear HG HX HB HO HDl HO3 HG3 HX3 HB3 HO2 HG2 HO1 hgk HB2
      generalize wr = w4 at *
      go_wp2
      go_loopw [9] (fun i wr => ∃ (j k : Nat) (y : Int), j ≤ d.length ∧ i = .int .i64 (j : Int) ∧ k ≤ p.length ∧ Hid (RdIs w1.heap.size wr g p k y) ∧ Hid (RefAt wr w2.heap.size a0 p.length c0 k y) ∧ Hid (Below w.heap.size w wr)) (fun i _ => d.length - (intOf i).toNat)
      case atStart => exact ⟨0, 0, 0, Nat.zero_le _, rfl, Nat.zero_le _, HG4, HX4, HB4⟩
      case round =>
        obtain ⟨j, k, y, hj, rfl, hk, HG, HX, HB⟩ := hrel
        by_cases hlt : j < d.length
        · obtain ⟨b1, o1, rfl, g1⟩ := HR1.out.resolve_left (by intro e; subst e; simp at hlt)
          have HS : Hid (∀ W, Below w.heap.size w W → W.cell? ⟨b1, o1 + j * 2, none⟩ = some (.int .i64 d[j].1) ∧ W.cell? ⟨b1, o1 + j * 2 + 1, none⟩ = some (.int .i64 d[j].2)) := fun W hb => (g1.below hb) j hlt
          clear g1
          have k1 : (j : Int) < (d.length : Int) := by omega
          have k0 : (0 : Int) ≤ (j : Int) := by omega
          generalize d[j] = kd at *
          obtain ⟨kind, most⟩ := kd
          simp only at HS
          obtain ⟨x1, x2⟩ := HS.out _ HB.out
          have hXlt := HX.out.lt
          obtain ⟨f0, f1, f2, f3, fz⟩ := HX.out.facts
          have z0 := fz 0
          have z1 := fz 1
          have z2 := fz 2
          have z3 := fz 3
          clear fz
          by_cases hk0 : kind = 0
          · subst hk0
            go_wp2_with fail
            refine (refNext_any a0 c0 p k y _ (HV.out.below HB.out) hk).mono ?_
            rintro e w5 ⟨rfl, hb5⟩
            have HK : Hid ((rdC p k y 9223372036854775807).2.1 ≤ p.length) := rdC_at hk
            have HB5 : Hid (Below w.heap.size w w5) := HB.out.trans (hb5.mono HB.out.size)
            have HX5 : Hid (RefAt w5 w2.heap.size a0 p.length c0 k y) := HX.out.below hb5
            have HG5 : Hid (RdIs w1.heap.size w5 g p k y) := HG.out.below hb5
            have HSt : Hid (_ ∧ _) := HX5.out.store (rdC p k y 9223372036854775807).2.1 (rdC p k y 9223372036854775807).2.2
            have HNum : Hid (∀ W, RdIs w1.heap.size W g p k y → Calls Try.prog 17 #[.pointer (some ⟨g, 0, none⟩)] W fun e w' => e = .returned (.int .i64 (rdC p k y 9223372036854775807).1) ∧ RdIs w1.heap.size w' g p (rdC p k y 9223372036854775807).2.1 (rdC p k y 9223372036854775807).2.2 ∧ W.grownBy w' (some g)) := fun W h => num_rd _ g p k y W h
            obtain ⟨f0, f1, f2, f3, fz⟩ := HX5.out.facts
            have z0 := fz 0
            have z1 := fz 1
            have z2 := fz 2
            have z3 := fz 3
            clear fz hb5
            unfold refR
            generalize rdC p k y 9223372036854775807 = r at *
            obtain ⟨n, k', y'⟩ := r
            simp only at HK HSt HNum ⊢
            go_wp2_with fail
            obtain ⟨hs5, hs6⟩ := HSt.out
            have HG6 : Hid (RdIs w1.heap.size _ g p k y) := HG5.out.refStore HX5.out hs6
            have HX6 : Hid (RefAt _ w2.heap.size a0 p.length c0 k' y') := hs5
            have HB6 : Hid (Below w.heap.size w _) := HB5.out.grown hs6 HB5.out.size (fun j e => by injection e with e; omega)
            refine (HNum.out _ HG6.out).mono ?_
            rintro e w7 ⟨rfl, hr7, hg7⟩
            have HG7 : Hid (RdIs w1.heap.size w7 g p k' y') := hr7
            have HX7 : Hid (RefAt w7 w2.heap.size a0 p.length c0 k' y') := HX6.out.other hg7 (HX6.out.ne HG6.out)
            have HB7 : Hid (Below w.heap.size w w7) := HG6.out.grows HB6.out hg7 hs1 HB6.out.size
            have qn : (n == n) = true := by simp
            clear hr7 hg7 hs5 hs6 HG5 HX5 HSt HNum HG6 HX6 HB6 HB5 HG HX HB
            go_wp2_with fail
            refine (why_any _ g p k' y' _ HG7.out).mono ?_
            rintro e w8 ⟨rfl, m8, rfl⟩
            have hkk : k' ≤ p.length := HK.out
            have qy : (y' != y') = false := by simp
            have qb : (badL k' y' != badL k' y') = false := by simp
            have qk : ((k' : Int) != (k' : Int)) = false := by simp
            have ql : ((p.length : Int) - (k' : Int) != (p.length : Int) - (k' : Int)) = false := by simp
            have qw : IntKind.i64.wrap ((p.length : Int) - (k' : Int)) = (p.length : Int) - (k' : Int) := by rw [IntKind.wrap_i64]; omega
            have qd : (doneL p k' y' != doneL p k' y') = false := by simp
            go_wp2_with fail
            refine wp_region_held_drew (S := fun W' => RdIs w1.heap.size W' g p k' y' ∧ RefAt W' w2.heap.size a0 p.length c0 k' y' ∧ Below w.heap.size w W') (by kernel_rfl) ⟨(HG7.out.drewN m8).drewN 1, (HX7.out.drewN m8).drewN 1, below_drewN (below_drewN HB7.out m8) 1⟩ (fun hHeld => ?_)
            refine wpAnyH_take (i := 0) (oi := ⟨some 107, _, _, _, _, _⟩) (v := ?va0) rfl (by kernel_rfl) (by kernel_rfl) (by kernel_rfl) (fun _ _ _ h => h) (Or.inl ⟨by rfl, ?hya0⟩) hHeld ?resta0
            case hya0 => (intro w hSw; (try dsimp only at hSw); go_simp; try with_reducible rfl)
            simp only [Act.put, List.setIfInBounds_toArray, List.set_cons_zero, List.set_cons_succ]
            refine wpAnyH_take (i := 1) (oi := ⟨some 108, _, _, _, _, _⟩) (v := ?va1) rfl (by kernel_rfl) (by kernel_rfl) (by kernel_rfl) (fun _ _ _ h => h) (Or.inl ⟨by rfl, ?hya1⟩) hHeld ?resta1
            case hya1 => (intro w hSw; (try dsimp only at hSw); go_simp; try with_reducible rfl)
            simp only [Act.put, List.setIfInBounds_toArray, List.set_cons_zero, List.set_cons_succ]
            refine wpAnyH_take (i := 2) (oi := ⟨some 109, _, _, _, _, _⟩) (v := ?va2) rfl (by kernel_rfl) (by kernel_rfl) (by kernel_rfl) (fun _ _ _ h => h) (Or.inl ⟨by rfl, ?hya2⟩) hHeld ?resta2
            case hya2 => (intro w hSw; (try dsimp only at hSw); go_simp; try with_reducible rfl)
            simp only [Act.put, List.setIfInBounds_toArray, List.set_cons_zero, List.set_cons_succ]
            refine wpAnyH_take (i := 3) (oi := ⟨some 110, _, _, _, _, _⟩) (v := ?va3) rfl (by kernel_rfl) (by kernel_rfl) (by kernel_rfl) (fun _ _ _ h => h) (Or.inl ⟨by rfl, ?hya3⟩) hHeld ?resta3
            case hya3 => (intro w hSw; (try dsimp only at hSw); go_simp; try with_reducible rfl)
            simp only [Act.put, List.setIfInBounds_toArray, List.set_cons_zero, List.set_cons_succ]
            refine wpAnyH_take (i := 4) (oi := ⟨some 111, _, _, _, _, _⟩) (v := ?va4) rfl (by kernel_rfl) (by kernel_rfl) (by kernel_rfl) (fun _ _ _ h => h) (Or.inl ⟨by rfl, ?hya4⟩) hHeld ?resta4
            case hya4 => (intro w hSw; (try dsimp only at hSw); go_simp; try with_reducible rfl)
            simp only [Act.put, List.setIfInBounds_toArray, List.set_cons_zero, List.set_cons_succ]
            refine wpAnyH_take (i := 5) (oi := ⟨some 112, _, _, _, _, _⟩) (v := ?va5) rfl (by kernel_rfl) (by kernel_rfl) (by kernel_rfl) (fun _ _ _ h => h) (Or.inl ⟨by rfl, ?hya5⟩) hHeld ?resta5
            case hya5 => (intro w hSw; (try dsimp only at hSw); obtain ⟨f0, f1, f2, f3, _⟩ := hSw.2.1.facts; go_simp; try with_reducible rfl)
            simp only [Act.put, List.setIfInBounds_toArray, List.set_cons_zero, List.set_cons_succ]
            refine wpAnyH_take (i := 6) (oi := ⟨some 113, _, _, _, _, _⟩) (v := ?va6) rfl (by kernel_rfl) (by kernel_rfl) (by kernel_rfl) (fun _ _ _ h => h) (Or.inl ⟨by rfl, ?hya6⟩) hHeld ?resta6
            case hya6 => (intro w hSw; (try dsimp only at hSw); go_simp; try with_reducible rfl)
            simp only [Act.put, List.setIfInBounds_toArray, List.set_cons_zero, List.set_cons_succ]
            refine wpAnyH_take (i := 7) (oi := ⟨some 114, _, _, _, _, _⟩) (v := ?va7) rfl (by kernel_rfl) (by kernel_rfl) (by kernel_rfl) (fun _ _ _ h => h) (Or.inl ⟨by rfl, ?hya7⟩) hHeld ?resta7
            case hya7 => (intro w hSw; (try dsimp only at hSw); go_simp; try with_reducible rfl)
            simp only [Act.put, List.setIfInBounds_toArray, List.set_cons_zero, List.set_cons_succ]
            refine wpAnyH_take (i := 8) (oi := ⟨some 115, _, _, _, _, _⟩) (v := ?va8) rfl (by kernel_rfl) (by kernel_rfl) (by kernel_rfl) (fun _ _ _ h => h) (Or.inl ⟨by rfl, ?hya8⟩) hHeld ?resta8
            case hya8 => (intro w hSw; (try dsimp only at hSw); go_simp; try with_reducible rfl)
            simp only [Act.put, List.setIfInBounds_toArray, List.set_cons_zero, List.set_cons_succ]
            refine wpAnyH_take (i := 9) (oi := ⟨some 116, _, _, _, _, _⟩) (v := ?va9) rfl (by kernel_rfl) (by kernel_rfl) (by kernel_rfl) (fun _ _ _ h => h) (Or.inl ⟨by rfl, ?hya9⟩) hHeld ?resta9
            case hya9 => (intro w hSw; (try dsimp only at hSw); go_simp; try with_reducible rfl)
            simp only [Act.put, List.setIfInBounds_toArray, List.set_cons_zero, List.set_cons_succ]
            refine wpAnyH_take (i := 10) (oi := ⟨some 117, _, _, _, _, _⟩) (v := ?va10) rfl (by kernel_rfl) (by kernel_rfl) (by kernel_rfl) (fun _ _ _ h => h) (Or.inl ⟨by rfl, ?hya10⟩) hHeld ?resta10
            case hya10 => (intro w hSw; (try dsimp only at hSw); go_simp; try with_reducible rfl)
            simp only [Act.put, List.setIfInBounds_toArray, List.set_cons_zero, List.set_cons_succ]
            refine wpAnyH_take (i := 11) (oi := ⟨some 118, _, _, _, _, _⟩) (v := ?va11) rfl (by kernel_rfl) (by kernel_rfl) (by kernel_rfl) (fun _ _ _ h => h) (Or.inl ⟨by rfl, ?hya11⟩) hHeld ?resta11
            case hya11 => (intro w hSw; (try dsimp only at hSw); obtain ⟨f0, f1, f2, f3, _⟩ := hSw.2.1.facts; go_simp; try with_reducible rfl)
            simp only [Act.put, List.setIfInBounds_toArray, List.set_cons_zero, List.set_cons_succ]
            refine wpAnyH_take (i := 12) (oi := ⟨some 119, _, _, _, _, _⟩) (v := ?va12) rfl (by kernel_rfl) (by kernel_rfl) (by kernel_rfl) (fun _ _ _ h => h) (Or.inl ⟨by rfl, ?hya12⟩) hHeld ?resta12
            case hya12 => (intro w hSw; (try dsimp only at hSw); go_simp; try with_reducible rfl)
            simp only [Act.put, List.setIfInBounds_toArray, List.set_cons_zero, List.set_cons_succ]
            refine wpAnyH_take (i := 13) (oi := ⟨some 120, _, _, _, _, _⟩) (v := ?va13) rfl (by kernel_rfl) (by kernel_rfl) (by kernel_rfl) (fun _ _ _ h => h) (Or.inl ⟨by rfl, ?hya13⟩) hHeld ?resta13
            case hya13 => (intro w hSw; (try dsimp only at hSw); go_simp; try with_reducible rfl)
            simp only [Act.put, List.setIfInBounds_toArray, List.set_cons_zero, List.set_cons_succ]
            refine wpAnyH_take (i := 14) (oi := ⟨some 121, _, _, _, _, _⟩) (v := ?va14) rfl (by kernel_rfl) (by kernel_rfl) (by kernel_rfl) (fun _ _ _ h => h) (Or.inl ⟨by rfl, ?hya14⟩) hHeld ?resta14
            case hya14 => (intro w hSw; (try dsimp only at hSw); go_simp; try with_reducible rfl)
            simp only [Act.put, List.setIfInBounds_toArray, List.set_cons_zero, List.set_cons_succ]
            refine wpAnyH_take (i := 15) (oi := ⟨some 122, _, _, _, _, _⟩) (v := ?va15) rfl (by kernel_rfl) (by kernel_rfl) (by kernel_rfl) (fun _ _ _ h => h) (Or.inl ⟨by rfl, ?hya15⟩) hHeld ?resta15
            case hya15 => (intro w hSw; (try dsimp only at hSw); go_simp; try with_reducible rfl)
            simp only [Act.put, List.setIfInBounds_toArray, List.set_cons_zero, List.set_cons_succ]
            refine wpAnyH_take (i := 17) (oi := ⟨some 124, _, _, _, _, _⟩) (v := ?va17) rfl (by kernel_rfl) (by kernel_rfl) (by kernel_rfl) (fun _ _ _ h => h) (Or.inl ⟨by rfl, ?hya17⟩) hHeld ?resta17
            case hya17 => (intro w hSw; (try dsimp only at hSw); go_simp; try with_reducible rfl)
            simp only [Act.put, List.setIfInBounds_toArray, List.set_cons_zero, List.set_cons_succ]
            refine wpAnyH_take (i := 18) (oi := ⟨some 125, _, _, _, _, _⟩) (v := ?va18) rfl (by kernel_rfl) (by kernel_rfl) (by kernel_rfl) (fun _ _ _ h => h) (Or.inl ⟨by rfl, ?hya18⟩) hHeld ?resta18
            case hya18 => (intro w hSw; (try dsimp only at hSw); obtain ⟨f0, f1, f2, f3, _⟩ := hSw.2.1.facts; go_simp; try with_reducible rfl)
            simp only [Act.put, List.setIfInBounds_toArray, List.set_cons_zero, List.set_cons_succ]
            refine wpAnyH_ready (rs := [16]) (by kernel_rfl) (by simp) ?_
            refine AllReadyH.cons (o := ⟨some 123, _, _, _, _, _⟩) rfl (fun K hK => ?_) AllReadyH.nil
            go_simp
            refine (at_any _ _ _ _ _ _ hHeld.1).mono ?_
            rintro e w' ⟨rfl, hw⟩; replace hw := hw.symm; subst hw
            (try go_wp2_with fail)
            refine hK.out _ _ (hHeld) (fun hHeld2 => ?_)
            clear hK K hHeld
            have hHeld := hHeld2
            clear hHeld2
            (try simp only [Act.put, List.setIfInBounds_toArray, List.set_cons_zero, List.set_cons_succ])
            refine wpAnyH_take (i := 19) (oi := ⟨some 126, _, _, _, _, _⟩) (v := ?va19) rfl (by kernel_rfl) (by kernel_rfl) (by kernel_rfl) (fun _ _ _ h => h) (Or.inl ⟨by rfl, ?hya19⟩) hHeld ?resta19
            case hya19 => (intro w hSw; (try dsimp only at hSw); go_simp; try with_reducible rfl)
            simp only [Act.put, List.setIfInBounds_toArray, List.set_cons_zero, List.set_cons_succ]
            refine wpAnyH_take (i := 20) (oi := ⟨some 127, _, _, _, _, _⟩) (v := ?va20) rfl (by kernel_rfl) (by kernel_rfl) (by kernel_rfl) (fun _ _ _ h => h) (Or.inl ⟨by rfl, ?hya20⟩) hHeld ?resta20
            case hya20 => (intro w hSw; (try dsimp only at hSw); go_simp; try with_reducible rfl)
            simp only [Act.put, List.setIfInBounds_toArray, List.set_cons_zero, List.set_cons_succ]
            refine wpAnyH_take (i := 21) (oi := ⟨some 128, _, _, _, _, _⟩) (v := ?va21) rfl (by kernel_rfl) (by kernel_rfl) (by kernel_rfl) (fun _ _ _ h => h) (Or.inl ⟨by rfl, ?hya21⟩) hHeld ?resta21
            case hya21 => (intro w hSw; (try dsimp only at hSw); go_simp; try with_reducible rfl)
            simp only [Act.put, List.setIfInBounds_toArray, List.set_cons_zero, List.set_cons_succ]
            refine wpAnyH_take (i := 22) (oi := ⟨some 129, _, _, _, _, _⟩) (v := ?va22) rfl (by kernel_rfl) (by kernel_rfl) (by kernel_rfl) (fun _ _ _ h => h) (Or.inl ⟨by rfl, ?hya22⟩) hHeld ?resta22
            case hya22 => (intro w hSw; (try dsimp only at hSw); go_simp; try with_reducible rfl)
            simp only [Act.put, List.setIfInBounds_toArray, List.set_cons_zero, List.set_cons_succ]
            refine wpAnyH_take (i := 24) (oi := ⟨some 131, _, _, _, _, _⟩) (v := ?va24) rfl (by kernel_rfl) (by kernel_rfl) (by kernel_rfl) (fun _ _ _ h => h) (Or.inl ⟨by rfl, ?hya24⟩) hHeld ?resta24
            case hya24 => (intro w hSw; (try dsimp only at hSw); go_simp; try with_reducible rfl)
            simp only [Act.put, List.setIfInBounds_toArray, List.set_cons_zero, List.set_cons_succ]
            refine wpAnyH_take (i := 25) (oi := ⟨some 132, _, _, _, _, _⟩) (v := ?va25) rfl (by kernel_rfl) (by kernel_rfl) (by kernel_rfl) (fun _ _ _ h => h) (Or.inl ⟨by rfl, ?hya25⟩) hHeld ?resta25
            case hya25 => (intro w hSw; (try dsimp only at hSw); go_simp; try with_reducible rfl)
            simp only [Act.put, List.setIfInBounds_toArray, List.set_cons_zero, List.set_cons_succ]
            refine wpAnyH_take (i := 26) (oi := ⟨some 133, _, _, _, _, _⟩) (v := ?va26) rfl (by kernel_rfl) (by kernel_rfl) (by kernel_rfl) (fun _ _ _ h => h) (Or.inl ⟨by rfl, ?hya26⟩) hHeld ?resta26
            case hya26 => (intro w hSw; (try dsimp only at hSw); go_simp; try with_reducible rfl)
            simp only [Act.put, List.setIfInBounds_toArray, List.set_cons_zero, List.set_cons_succ]
            refine wpAnyH_take (i := 27) (oi := ⟨some 134, _, _, _, _, _⟩) (v := ?va27) rfl (by kernel_rfl) (by kernel_rfl) (by kernel_rfl) (fun _ _ _ h => h) (Or.inl ⟨by rfl, ?hya27⟩) hHeld ?resta27
            case hya27 => (intro w hSw; (try dsimp only at hSw); obtain ⟨f0, f1, f2, f3, _⟩ := hSw.2.1.facts; go_simp; try with_reducible rfl)
            simp only [Act.put, List.setIfInBounds_toArray, List.set_cons_zero, List.set_cons_succ]
            refine wpAnyH_take (i := 28) (oi := ⟨some 135, _, _, _, _, _⟩) (v := ?va28) rfl (by kernel_rfl) (by kernel_rfl) (by kernel_rfl) (fun _ _ _ h => h) (Or.inl ⟨by rfl, ?hya28⟩) hHeld ?resta28
            case hya28 => (intro w hSw; (try dsimp only at hSw); go_simp; try with_reducible rfl)
            simp only [Act.put, List.setIfInBounds_toArray, List.set_cons_zero, List.set_cons_succ]
            refine wpAnyH_ready (rs := [23]) (by kernel_rfl) (by simp) ?_
            refine AllReadyH.cons (o := ⟨some 130, _, _, _, _, _⟩) rfl (fun K hK => ?_) AllReadyH.nil
            go_simp
            refine (left_any _ _ _ _ _ _ hHeld.1).mono ?_
            rintro e w' ⟨rfl, mq, rfl⟩
            (try go_wp2_with fail)
            refine hK.out _ _ (⟨hHeld.1.kept fun _ _ _ => rfl, hHeld.2.1, ⟨hHeld.2.2.os, hHeld.2.2.tape, hHeld.2.2.output, hHeld.2.2.size, hHeld.2.2.block⟩⟩) (fun hHeld2 => ?_)
            clear hK K hHeld
            have hHeld := hHeld2
            clear hHeld2
            (try simp only [Act.put, List.setIfInBounds_toArray, List.set_cons_zero, List.set_cons_succ])
            refine wpAnyH_take (i := 29) (oi := ⟨some 136, _, _, _, _, _⟩) (v := ?va29) rfl (by kernel_rfl) (by kernel_rfl) (by kernel_rfl) (fun _ _ _ h => h) (Or.inl ⟨by rfl, ?hya29⟩) hHeld ?resta29
            case hya29 => (intro w hSw; (try dsimp only at hSw); go_simp; try with_reducible rfl)
            simp only [Act.put, List.setIfInBounds_toArray, List.set_cons_zero, List.set_cons_succ]
            refine wpAnyH_take (i := 30) (oi := ⟨some 137, _, _, _, _, _⟩) (v := ?va30) rfl (by kernel_rfl) (by kernel_rfl) (by kernel_rfl) (fun _ _ _ h => h) (Or.inl ⟨by rfl, ?hya30⟩) hHeld ?resta30
            case hya30 => (intro w hSw; (try dsimp only at hSw); go_simp; try with_reducible rfl)
            simp only [Act.put, List.setIfInBounds_toArray, List.set_cons_zero, List.set_cons_succ]
            refine wpAnyH_take (i := 31) (oi := ⟨some 138, _, _, _, _, _⟩) (v := ?va31) rfl (by kernel_rfl) (by kernel_rfl) (by kernel_rfl) (fun _ _ _ h => h) (Or.inl ⟨by rfl, ?hya31⟩) hHeld ?resta31
            case hya31 => (intro w hSw; (try dsimp only at hSw); go_simp; try with_reducible rfl)
            simp only [Act.put, List.setIfInBounds_toArray, List.set_cons_zero, List.set_cons_succ]
            refine wpAnyH_take (i := 32) (oi := ⟨some 139, _, _, _, _, _⟩) (v := ?va32) rfl (by kernel_rfl) (by kernel_rfl) (by kernel_rfl) (fun _ _ _ h => h) (Or.inl ⟨by rfl, ?hya32⟩) hHeld ?resta32
            case hya32 => (intro w hSw; (try dsimp only at hSw); go_simp; try with_reducible rfl)
            simp only [Act.put, List.setIfInBounds_toArray, List.set_cons_zero, List.set_cons_succ]
            refine wpAnyH_take (i := 34) (oi := ⟨some 141, _, _, _, _, _⟩) (v := ?va34) rfl (by kernel_rfl) (by kernel_rfl) (by kernel_rfl) (fun _ _ _ h => h) (Or.inl ⟨by rfl, ?hya34⟩) hHeld ?resta34
            case hya34 => (intro w hSw; (try dsimp only at hSw); obtain ⟨f0, f1, f2, f3, _⟩ := hSw.2.1.facts; go_simp; try with_reducible rfl)
            simp only [Act.put, List.setIfInBounds_toArray, List.set_cons_zero, List.set_cons_succ]
            refine wpAnyH_ready (rs := [33]) (by kernel_rfl) (by simp) ?_
            refine AllReadyH.cons (o := ⟨some 140, _, _, _, _, _⟩) rfl (fun K hK => ?_) AllReadyH.nil
            go_simp
            refine (done_any _ _ _ _ _ _ hHeld.1).mono ?_
            rintro e w' ⟨rfl, mr, rfl⟩
            (try go_wp2_with fail)
            refine hK.out _ _ (⟨hHeld.1.kept fun _ _ _ => rfl, hHeld.2.1, ⟨hHeld.2.2.os, hHeld.2.2.tape, hHeld.2.2.output, hHeld.2.2.size, hHeld.2.2.block⟩⟩) (fun hHeld2 => ?_)
            clear hK K hHeld
            have hHeld := hHeld2
            clear hHeld2
            (try simp only [Act.put, List.setIfInBounds_toArray, List.set_cons_zero, List.set_cons_succ])
            refine wpAnyH_ready (rs := [35]) (by kernel_rfl) (by simp) ?_
            refine AllReadyH.cons (o := ⟨some 142, _, _, _, _, _⟩) rfl (fun K hK => ?_) AllReadyH.nil
            go_simp
            refine (refDone_any a0 c0 p k' y' _).mono ?_
            rintro e w' ⟨rfl, hb⟩
            (try go_wp2_with fail)
            refine hK.out _ _ (⟨hHeld.1.below hb, hHeld.2.1.below hb, below_keep hHeld.2.2 hb hHeld.2.2.size⟩) (fun hHeld2 => ?_)
            clear hK K hHeld
            have hHeld := hHeld2
            clear hHeld2
            (try simp only [Act.put, List.setIfInBounds_toArray, List.set_cons_zero, List.set_cons_succ])
            refine wpAnyH_take (i := 36) (oi := ⟨some 143, _, _, _, _, _⟩) (v := ?va36) rfl (by kernel_rfl) (by kernel_rfl) (by kernel_rfl) (fun _ _ _ h => h) (Or.inl ⟨by rfl, ?hya36⟩) hHeld ?resta36
            case hya36 => (intro w hSw; (try dsimp only at hSw); go_simp; try with_reducible rfl)
            simp only [Act.put, List.setIfInBounds_toArray, List.set_cons_zero, List.set_cons_succ]
            refine wpAnyH_take (i := 37) (oi := ⟨some 144, _, _, _, _, _⟩) (v := ?va37) rfl (by kernel_rfl) (by kernel_rfl) (by kernel_rfl) (fun _ _ _ h => h) (Or.inl ⟨by rfl, ?hya37⟩) hHeld ?resta37
            case hya37 => (intro w hSw; (try dsimp only at hSw); go_simp; try with_reducible rfl)
            simp only [Act.put, List.setIfInBounds_toArray, List.set_cons_zero, List.set_cons_succ]
            refine wpAnyH_done (by kernel_rfl) ?_ _
            have HGn : Hid (RdIs w1.heap.size w' g p k' y') := hHeld.1
            have HXn : Hid (RefAt w' w2.heap.size a0 p.length c0 k' y') := hHeld.2.1
            have HBn : Hid (Below w.heap.size w w') := hHeld.2.2
            clear hHeld hb
            go_wp2
            go_roundw
            case rel => exact ⟨j + 1, k', y', by omega, by go_num, hkk, HGn, HXn, HBn⟩
            case measure => simp [intOf]; omega
          · by_cases hk1 : kind = 1
            · subst hk1
              have HK : Hid ((rdC p k y most).2.1 ≤ p.length) := rdC_at hk
              have HRef : Hid (∀ W, Below w.heap.size w W → Calls Try.prog 18 #[.agg #[.slice a0 p.length c0, .int .i64 (k : Int), .int .i64 y, .int .i64 (badL k y)], .int .i64 most] W fun e w' => e = .returned (.tuple #[.agg #[.slice a0 p.length c0, .int .i64 ((rdC p k y most).2.1 : Int), .int .i64 (rdC p k y most).2.2, .int .i64 (badL (rdC p k y most).2.1 (rdC p k y most).2.2)], .int .i64 (rdC p k y most).1]) ∧ Below W.heap.size W w') := fun W hb => refCount_any a0 c0 p k y most W (HV.out.below hb) hk
              have HRdr : Hid (∀ W, RdIs w1.heap.size W g p k y → Calls Try.prog 19 #[.pointer (some ⟨g, 0, none⟩), .int .i64 most] W fun e w' => e = .returned (.int .i64 (rdC p k y most).1) ∧ RdIs w1.heap.size w' g p (rdC p k y most).2.1 (rdC p k y most).2.2 ∧ W.grownBy w' (some g)) := fun W h => count_rd _ g p k y most W h
              generalize rdC p k y most = r at *
              obtain ⟨n, k', y'⟩ := r
              simp only at HK HRef HRdr
              go_wp2_with fail
              clear f0 f1 f2 f3 z0 z1 z2 z3 x1 x2
              have HXd : Hid (RefAt wr.drew w2.heap.size a0 p.length c0 k y) := HX.out.drewN 1
              have HGd : Hid (RdIs w1.heap.size wr.drew g p k y) := HG.out.drewN 1
              obtain ⟨f0, f1, f2, f3, _⟩ := HXd.out.facts
              refine wp_region_held_drew (S := fun W' => W'.cell? ⟨b1, o1 + j * 2 + 1, none⟩ = some (.int .i64 most) ∧ Below w.heap.size w W') (by kernel_rfl) ⟨(HS.out _ HB.out.drew).2, HB.out.drew⟩ (fun hHeld => ?_)
              refine wpAnyH_take (i := 1) (oi := ⟨some 64, _, _, _, _, _⟩) (v := ?vb1) rfl (by kernel_rfl) (by kernel_rfl) (by kernel_rfl) (fun _ _ _ h => h) (Or.inl ⟨by rfl, ?hyb1⟩) hHeld ?restb1
              case hyb1 => (intro w hSw; (try dsimp only at hSw); go_simp; try with_reducible rfl)
              simp only [Act.put, List.setIfInBounds_toArray, List.set_cons_zero, List.set_cons_succ]
              refine wpAnyH_take (i := 2) (oi := ⟨some 65, _, _, _, _, _⟩) (v := ?vb2) rfl (by kernel_rfl) (by kernel_rfl) (by kernel_rfl) (fun _ _ _ h => h) (Or.inl ⟨by rfl, ?hyb2⟩) hHeld ?restb2
              case hyb2 => (intro w hSw; (try dsimp only at hSw); go_simp; try with_reducible rfl)
              simp only [Act.put, List.setIfInBounds_toArray, List.set_cons_zero, List.set_cons_succ]
              refine wpAnyH_take (i := 3) (oi := ⟨some 66, _, _, _, _, _⟩) (v := ?vb3) rfl (by kernel_rfl) (by kernel_rfl) (by kernel_rfl) (fun _ _ _ h => h) (Or.inl ⟨by rfl, ?hyb3⟩) hHeld ?restb3
              case hyb3 => (intro w hSw; (try dsimp only at hSw); go_simp; try with_reducible rfl)
              simp only [Act.put, List.setIfInBounds_toArray, List.set_cons_zero, List.set_cons_succ]
              refine wpAnyH_take (i := 4) (oi := ⟨some 67, _, _, _, _, _⟩) (v := ?vb4) rfl (by kernel_rfl) (by kernel_rfl) (by kernel_rfl) (fun _ _ _ h => h) (Or.inl ⟨by rfl, ?hyb4⟩) hHeld ?restb4
              case hyb4 => (intro w hSw; (try dsimp only at hSw); go_simp; try with_reducible rfl)
              simp only [Act.put, List.setIfInBounds_toArray, List.set_cons_zero, List.set_cons_succ]
              refine wpAnyH_take (i := 5) (oi := ⟨some 68, _, _, _, _, _⟩) (v := ?vb5) rfl (by kernel_rfl) (by kernel_rfl) (by kernel_rfl) (fun _ _ _ h => h) (Or.inl ⟨by rfl, ?hyb5⟩) hHeld ?restb5
              case hyb5 => (intro w hSw; (try dsimp only at hSw); go_simp; try with_reducible rfl)
              simp only [Act.put, List.setIfInBounds_toArray, List.set_cons_zero, List.set_cons_succ]
              refine wpAnyH_ready (rs := [0]) (by kernel_rfl) (by simp) ?_
              refine AllReadyH.cons (o := ⟨some 63, _, _, _, _, _⟩) rfl (fun K hK => ?_) AllReadyH.nil
              go_simp
              refine hK.out _ _ (hHeld) (fun hHeld2 => ?_)
              clear hK K hHeld
              have hHeld := hHeld2
              clear hHeld2
              (try simp only [Act.put, List.setIfInBounds_toArray, List.set_cons_zero, List.set_cons_succ])
              clear f0 f1 f2 f3
              refine wpAnyH_ready (rs := [6]) (by kernel_rfl) (by simp) ?_
              refine AllReadyH.cons (o := ⟨some 69, _, _, _, _, _⟩) rfl (fun K hK => ?_) AllReadyH.nil
              go_simp
              refine (HRef.out _ hHeld.2).mono ?_
              rintro e w' ⟨rfl, hb⟩
              (try go_wp2_with fail)
              refine hK.out _ _ (⟨(HS.out _ (below_keep hHeld.2 hb hHeld.2.size)).2, (below_keep hHeld.2 hb hHeld.2.size)⟩) (fun hHeld2 => ?_)
              clear hK K hHeld
              have hHeld := hHeld2
              clear hHeld2
              (try simp only [Act.put, List.setIfInBounds_toArray, List.set_cons_zero, List.set_cons_succ])
              have HXc : Hid (RefAt w' w2.heap.size a0 p.length c0 k y) := HXd.out.below hb; have HGc : Hid (RdIs w1.heap.size w' g p k y) := HGd.out.below hb; have HBc : Hid (Below w.heap.size w w') := hHeld.2; have HSt : Hid (RefAt ((((w'.setCell ⟨w2.heap.size, 0, none⟩ (.slice a0 p.length c0)).setCell ⟨w2.heap.size, 1, none⟩ (.int .i64 (k' : Int))).setCell ⟨w2.heap.size, 2, none⟩ (.int .i64 y')).setCell ⟨w2.heap.size, 3, none⟩ (.int .i64 (badL k' y'))) w2.heap.size a0 p.length c0 k' y' ∧ w'.grownBy ((((w'.setCell ⟨w2.heap.size, 0, none⟩ (.slice a0 p.length c0)).setCell ⟨w2.heap.size, 1, none⟩ (.int .i64 (k' : Int))).setCell ⟨w2.heap.size, 2, none⟩ (.int .i64 y')).setCell ⟨w2.heap.size, 3, none⟩ (.int .i64 (badL k' y'))) (some w2.heap.size)) := HXc.out.store k' y'; obtain ⟨f0, f1, f2, f3, fz⟩ := HXc.out.facts; have z0 := fz 0; have z1 := fz 1; have z2 := fz 2; have z3 := fz 3; clear fz hb
              refine wpAnyH_take (i := 7) (oi := ⟨some 62, _, _, _, _, _⟩) (v := ?vb7) rfl (by kernel_rfl) (by kernel_rfl) (by kernel_rfl) (fun _ _ _ h => h) (Or.inl ⟨by rfl, ?hyb7⟩) hHeld ?restb7
              case hyb7 => (intro w hSw; (try dsimp only at hSw); go_simp; try with_reducible rfl)
              simp only [Act.put, List.setIfInBounds_toArray, List.set_cons_zero, List.set_cons_succ]
              refine wpAnyH_take (i := 8) (oi := ⟨some 70, _, _, _, _, _⟩) (v := ?vb8) rfl (by kernel_rfl) (by kernel_rfl) (by kernel_rfl) (fun _ _ _ h => h) (Or.inl ⟨by rfl, ?hyb8⟩) hHeld ?restb8
              case hyb8 => (intro w hSw; (try dsimp only at hSw); go_simp; try with_reducible rfl)
              simp only [Act.put, List.setIfInBounds_toArray, List.set_cons_zero, List.set_cons_succ]
              refine wpAnyH_take (i := 9) (oi := ⟨some 71, _, _, _, _, _⟩) (v := ?vb9) rfl (by kernel_rfl) (by kernel_rfl) (by kernel_rfl) (fun _ _ _ h => h) (Or.inl ⟨by rfl, ?hyb9⟩) hHeld ?restb9
              case hyb9 => (intro w hSw; (try dsimp only at hSw); go_simp; try with_reducible rfl)
              simp only [Act.put, List.setIfInBounds_toArray, List.set_cons_zero, List.set_cons_succ]
              refine wpAnyH_ready (rs := [10]) (by kernel_rfl) (by simp) ?_
              refine AllReadyH.cons (o := ⟨none, _, _, _, _, _⟩) rfl (fun K hK => ?_) AllReadyH.nil
              go_simp
              refine hK.out _ _ (⟨(HS.out _ (HBc.out.grown HSt.out.2 HBc.out.size (fun j e => by injection e with e; omega))).2, (HBc.out.grown HSt.out.2 HBc.out.size (fun j e => by injection e with e; omega))⟩) (fun hHeld2 => ?_)
              clear hK K hHeld
              have hHeld := hHeld2
              clear hHeld2
              (try simp only [Act.put, List.setIfInBounds_toArray, List.set_cons_zero, List.set_cons_succ])
              refine wpAnyH_take (i := 11) (oi := ⟨some 10, _, _, _, _, _⟩) (v := ?vb11) rfl (by kernel_rfl) (by kernel_rfl) (by kernel_rfl) (fun _ _ _ h => h) (Or.inl ⟨by rfl, ?hyb11⟩) hHeld ?restb11
              case hyb11 => (intro w hSw; (try dsimp only at hSw); go_simp; try with_reducible rfl)
              simp only [Act.put, List.setIfInBounds_toArray, List.set_cons_zero, List.set_cons_succ]
              refine wpAnyH_done (by kernel_rfl) ?_ _
              have HG6 : Hid (RdIs w1.heap.size ((((w'.setCell ⟨w2.heap.size, 0, none⟩ (.slice a0 p.length c0)).setCell ⟨w2.heap.size, 1, none⟩ (.int .i64 (k' : Int))).setCell ⟨w2.heap.size, 2, none⟩ (.int .i64 y')).setCell ⟨w2.heap.size, 3, none⟩ (.int .i64 (badL k' y'))) g p k y) := HGc.out.refStore HXc.out HSt.out.2
              have HX6 : Hid (RefAt ((((w'.setCell ⟨w2.heap.size, 0, none⟩ (.slice a0 p.length c0)).setCell ⟨w2.heap.size, 1, none⟩ (.int .i64 (k' : Int))).setCell ⟨w2.heap.size, 2, none⟩ (.int .i64 y')).setCell ⟨w2.heap.size, 3, none⟩ (.int .i64 (badL k' y'))) w2.heap.size a0 p.length c0 k' y') := HSt.out.1
              have HB6 : Hid (Below w.heap.size w ((((w'.setCell ⟨w2.heap.size, 0, none⟩ (.slice a0 p.length c0)).setCell ⟨w2.heap.size, 1, none⟩ (.int .i64 (k' : Int))).setCell ⟨w2.heap.size, 2, none⟩ (.int .i64 y')).setCell ⟨w2.heap.size, 3, none⟩ (.int .i64 (badL k' y')))) := hHeld.2
              clear HSt HXc HGc HBc f0 f1 f2 f3 z0 z1 z2 z3 hHeld HXd HGd
              generalize ((((w'.setCell ⟨w2.heap.size, 0, none⟩ (.slice a0 p.length c0)).setCell ⟨w2.heap.size, 1, none⟩ (.int .i64 (k' : Int))).setCell ⟨w2.heap.size, 2, none⟩ (.int .i64 y')).setCell ⟨w2.heap.size, 3, none⟩ (.int .i64 (badL k' y'))) = w6 at *
              obtain ⟨x1, x2⟩ := HS.out _ HB6.out
              go_wp2_with fail
              refine (HRdr.out _ HG6.out).mono ?_
              rintro e w7 ⟨rfl, hr7, hg7⟩
              have HG7 : Hid (RdIs w1.heap.size w7 g p k' y') := hr7
              have HX7 : Hid (RefAt w7 w2.heap.size a0 p.length c0 k' y') := HX6.out.other hg7 (HX6.out.ne HG6.out)
              have HB7 : Hid (Below w.heap.size w w7) := HG6.out.grows HB6.out hg7 hs1 HB6.out.size
              have qn : (n == n) = true := by simp
              clear hr7 hg7 x1 x2 HG6 HX6 HB6 HRdr HRef HG HX HB
              go_wp2_with fail
              refine (why_any _ g p k' y' _ HG7.out).mono ?_
              rintro e w8 ⟨rfl, m8, rfl⟩
              have hkk : k' ≤ p.length := HK.out
              have qy : (y' != y') = false := by simp
              have qb : (badL k' y' != badL k' y') = false := by simp
              have qk : ((k' : Int) != (k' : Int)) = false := by simp
              have ql : ((p.length : Int) - (k' : Int) != (p.length : Int) - (k' : Int)) = false := by simp
              have qw : IntKind.i64.wrap ((p.length : Int) - (k' : Int)) = (p.length : Int) - (k' : Int) := by rw [IntKind.wrap_i64]; omega
              have qd : (doneL p k' y' != doneL p k' y') = false := by simp
              go_wp2_with fail
              refine wp_region_held_drew (S := fun W' => RdIs w1.heap.size W' g p k' y' ∧ RefAt W' w2.heap.size a0 p.length c0 k' y' ∧ Below w.heap.size w W') (by kernel_rfl) ⟨(HG7.out.drewN m8).drewN 1, (HX7.out.drewN m8).drewN 1, below_drewN (below_drewN HB7.out m8) 1⟩ (fun hHeld => ?_)
              refine wpAnyH_take (i := 0) (oi := ⟨some 107, _, _, _, _, _⟩) (v := ?vc0) rfl (by kernel_rfl) (by kernel_rfl) (by kernel_rfl) (fun _ _ _ h => h) (Or.inl ⟨by rfl, ?hyc0⟩) hHeld ?restc0
              case hyc0 => (intro w hSw; (try dsimp only at hSw); go_simp; try with_reducible rfl)
              simp only [Act.put, List.setIfInBounds_toArray, List.set_cons_zero, List.set_cons_succ]
              refine wpAnyH_take (i := 1) (oi := ⟨some 108, _, _, _, _, _⟩) (v := ?vc1) rfl (by kernel_rfl) (by kernel_rfl) (by kernel_rfl) (fun _ _ _ h => h) (Or.inl ⟨by rfl, ?hyc1⟩) hHeld ?restc1
              case hyc1 => (intro w hSw; (try dsimp only at hSw); go_simp; try with_reducible rfl)
              simp only [Act.put, List.setIfInBounds_toArray, List.set_cons_zero, List.set_cons_succ]
              refine wpAnyH_take (i := 2) (oi := ⟨some 109, _, _, _, _, _⟩) (v := ?vc2) rfl (by kernel_rfl) (by kernel_rfl) (by kernel_rfl) (fun _ _ _ h => h) (Or.inl ⟨by rfl, ?hyc2⟩) hHeld ?restc2
              case hyc2 => (intro w hSw; (try dsimp only at hSw); go_simp; try with_reducible rfl)
              simp only [Act.put, List.setIfInBounds_toArray, List.set_cons_zero, List.set_cons_succ]
              refine wpAnyH_take (i := 3) (oi := ⟨some 110, _, _, _, _, _⟩) (v := ?vc3) rfl (by kernel_rfl) (by kernel_rfl) (by kernel_rfl) (fun _ _ _ h => h) (Or.inl ⟨by rfl, ?hyc3⟩) hHeld ?restc3
              case hyc3 => (intro w hSw; (try dsimp only at hSw); go_simp; try with_reducible rfl)
              simp only [Act.put, List.setIfInBounds_toArray, List.set_cons_zero, List.set_cons_succ]
              refine wpAnyH_take (i := 4) (oi := ⟨some 111, _, _, _, _, _⟩) (v := ?vc4) rfl (by kernel_rfl) (by kernel_rfl) (by kernel_rfl) (fun _ _ _ h => h) (Or.inl ⟨by rfl, ?hyc4⟩) hHeld ?restc4
              case hyc4 => (intro w hSw; (try dsimp only at hSw); go_simp; try with_reducible rfl)
              simp only [Act.put, List.setIfInBounds_toArray, List.set_cons_zero, List.set_cons_succ]
              refine wpAnyH_take (i := 5) (oi := ⟨some 112, _, _, _, _, _⟩) (v := ?vc5) rfl (by kernel_rfl) (by kernel_rfl) (by kernel_rfl) (fun _ _ _ h => h) (Or.inl ⟨by rfl, ?hyc5⟩) hHeld ?restc5
              case hyc5 => (intro w hSw; (try dsimp only at hSw); obtain ⟨f0, f1, f2, f3, _⟩ := hSw.2.1.facts; go_simp; try with_reducible rfl)
              simp only [Act.put, List.setIfInBounds_toArray, List.set_cons_zero, List.set_cons_succ]
              refine wpAnyH_take (i := 6) (oi := ⟨some 113, _, _, _, _, _⟩) (v := ?vc6) rfl (by kernel_rfl) (by kernel_rfl) (by kernel_rfl) (fun _ _ _ h => h) (Or.inl ⟨by rfl, ?hyc6⟩) hHeld ?restc6
              case hyc6 => (intro w hSw; (try dsimp only at hSw); go_simp; try with_reducible rfl)
              simp only [Act.put, List.setIfInBounds_toArray, List.set_cons_zero, List.set_cons_succ]
              refine wpAnyH_take (i := 7) (oi := ⟨some 114, _, _, _, _, _⟩) (v := ?vc7) rfl (by kernel_rfl) (by kernel_rfl) (by kernel_rfl) (fun _ _ _ h => h) (Or.inl ⟨by rfl, ?hyc7⟩) hHeld ?restc7
              case hyc7 => (intro w hSw; (try dsimp only at hSw); go_simp; try with_reducible rfl)
              simp only [Act.put, List.setIfInBounds_toArray, List.set_cons_zero, List.set_cons_succ]
              refine wpAnyH_take (i := 8) (oi := ⟨some 115, _, _, _, _, _⟩) (v := ?vc8) rfl (by kernel_rfl) (by kernel_rfl) (by kernel_rfl) (fun _ _ _ h => h) (Or.inl ⟨by rfl, ?hyc8⟩) hHeld ?restc8
              case hyc8 => (intro w hSw; (try dsimp only at hSw); go_simp; try with_reducible rfl)
              simp only [Act.put, List.setIfInBounds_toArray, List.set_cons_zero, List.set_cons_succ]
              refine wpAnyH_take (i := 9) (oi := ⟨some 116, _, _, _, _, _⟩) (v := ?vc9) rfl (by kernel_rfl) (by kernel_rfl) (by kernel_rfl) (fun _ _ _ h => h) (Or.inl ⟨by rfl, ?hyc9⟩) hHeld ?restc9
              case hyc9 => (intro w hSw; (try dsimp only at hSw); go_simp; try with_reducible rfl)
              simp only [Act.put, List.setIfInBounds_toArray, List.set_cons_zero, List.set_cons_succ]
              refine wpAnyH_take (i := 10) (oi := ⟨some 117, _, _, _, _, _⟩) (v := ?vc10) rfl (by kernel_rfl) (by kernel_rfl) (by kernel_rfl) (fun _ _ _ h => h) (Or.inl ⟨by rfl, ?hyc10⟩) hHeld ?restc10
              case hyc10 => (intro w hSw; (try dsimp only at hSw); go_simp; try with_reducible rfl)
              simp only [Act.put, List.setIfInBounds_toArray, List.set_cons_zero, List.set_cons_succ]
              refine wpAnyH_take (i := 11) (oi := ⟨some 118, _, _, _, _, _⟩) (v := ?vc11) rfl (by kernel_rfl) (by kernel_rfl) (by kernel_rfl) (fun _ _ _ h => h) (Or.inl ⟨by rfl, ?hyc11⟩) hHeld ?restc11
              case hyc11 => (intro w hSw; (try dsimp only at hSw); obtain ⟨f0, f1, f2, f3, _⟩ := hSw.2.1.facts; go_simp; try with_reducible rfl)
              simp only [Act.put, List.setIfInBounds_toArray, List.set_cons_zero, List.set_cons_succ]
              refine wpAnyH_take (i := 12) (oi := ⟨some 119, _, _, _, _, _⟩) (v := ?vc12) rfl (by kernel_rfl) (by kernel_rfl) (by kernel_rfl) (fun _ _ _ h => h) (Or.inl ⟨by rfl, ?hyc12⟩) hHeld ?restc12
              case hyc12 => (intro w hSw; (try dsimp only at hSw); go_simp; try with_reducible rfl)
              simp only [Act.put, List.setIfInBounds_toArray, List.set_cons_zero, List.set_cons_succ]
              refine wpAnyH_take (i := 13) (oi := ⟨some 120, _, _, _, _, _⟩) (v := ?vc13) rfl (by kernel_rfl) (by kernel_rfl) (by kernel_rfl) (fun _ _ _ h => h) (Or.inl ⟨by rfl, ?hyc13⟩) hHeld ?restc13
              case hyc13 => (intro w hSw; (try dsimp only at hSw); go_simp; try with_reducible rfl)
              simp only [Act.put, List.setIfInBounds_toArray, List.set_cons_zero, List.set_cons_succ]
              refine wpAnyH_take (i := 14) (oi := ⟨some 121, _, _, _, _, _⟩) (v := ?vc14) rfl (by kernel_rfl) (by kernel_rfl) (by kernel_rfl) (fun _ _ _ h => h) (Or.inl ⟨by rfl, ?hyc14⟩) hHeld ?restc14
              case hyc14 => (intro w hSw; (try dsimp only at hSw); go_simp; try with_reducible rfl)
              simp only [Act.put, List.setIfInBounds_toArray, List.set_cons_zero, List.set_cons_succ]
              refine wpAnyH_take (i := 15) (oi := ⟨some 122, _, _, _, _, _⟩) (v := ?vc15) rfl (by kernel_rfl) (by kernel_rfl) (by kernel_rfl) (fun _ _ _ h => h) (Or.inl ⟨by rfl, ?hyc15⟩) hHeld ?restc15
              case hyc15 => (intro w hSw; (try dsimp only at hSw); go_simp; try with_reducible rfl)
              simp only [Act.put, List.setIfInBounds_toArray, List.set_cons_zero, List.set_cons_succ]
              refine wpAnyH_take (i := 17) (oi := ⟨some 124, _, _, _, _, _⟩) (v := ?vc17) rfl (by kernel_rfl) (by kernel_rfl) (by kernel_rfl) (fun _ _ _ h => h) (Or.inl ⟨by rfl, ?hyc17⟩) hHeld ?restc17
              case hyc17 => (intro w hSw; (try dsimp only at hSw); go_simp; try with_reducible rfl)
              simp only [Act.put, List.setIfInBounds_toArray, List.set_cons_zero, List.set_cons_succ]
              refine wpAnyH_take (i := 18) (oi := ⟨some 125, _, _, _, _, _⟩) (v := ?vc18) rfl (by kernel_rfl) (by kernel_rfl) (by kernel_rfl) (fun _ _ _ h => h) (Or.inl ⟨by rfl, ?hyc18⟩) hHeld ?restc18
              case hyc18 => (intro w hSw; (try dsimp only at hSw); obtain ⟨f0, f1, f2, f3, _⟩ := hSw.2.1.facts; go_simp; try with_reducible rfl)
              simp only [Act.put, List.setIfInBounds_toArray, List.set_cons_zero, List.set_cons_succ]
              refine wpAnyH_ready (rs := [16]) (by kernel_rfl) (by simp) ?_
              refine AllReadyH.cons (o := ⟨some 123, _, _, _, _, _⟩) rfl (fun K hK => ?_) AllReadyH.nil
              go_simp
              refine (at_any _ _ _ _ _ _ hHeld.1).mono ?_
              rintro e w' ⟨rfl, hw⟩; replace hw := hw.symm; subst hw
              (try go_wp2_with fail)
              refine hK.out _ _ (hHeld) (fun hHeld2 => ?_)
              clear hK K hHeld
              have hHeld := hHeld2
              clear hHeld2
              (try simp only [Act.put, List.setIfInBounds_toArray, List.set_cons_zero, List.set_cons_succ])
              refine wpAnyH_take (i := 19) (oi := ⟨some 126, _, _, _, _, _⟩) (v := ?vc19) rfl (by kernel_rfl) (by kernel_rfl) (by kernel_rfl) (fun _ _ _ h => h) (Or.inl ⟨by rfl, ?hyc19⟩) hHeld ?restc19
              case hyc19 => (intro w hSw; (try dsimp only at hSw); go_simp; try with_reducible rfl)
              simp only [Act.put, List.setIfInBounds_toArray, List.set_cons_zero, List.set_cons_succ]
              refine wpAnyH_take (i := 20) (oi := ⟨some 127, _, _, _, _, _⟩) (v := ?vc20) rfl (by kernel_rfl) (by kernel_rfl) (by kernel_rfl) (fun _ _ _ h => h) (Or.inl ⟨by rfl, ?hyc20⟩) hHeld ?restc20
              case hyc20 => (intro w hSw; (try dsimp only at hSw); go_simp; try with_reducible rfl)
              simp only [Act.put, List.setIfInBounds_toArray, List.set_cons_zero, List.set_cons_succ]
              refine wpAnyH_take (i := 21) (oi := ⟨some 128, _, _, _, _, _⟩) (v := ?vc21) rfl (by kernel_rfl) (by kernel_rfl) (by kernel_rfl) (fun _ _ _ h => h) (Or.inl ⟨by rfl, ?hyc21⟩) hHeld ?restc21
              case hyc21 => (intro w hSw; (try dsimp only at hSw); go_simp; try with_reducible rfl)
              simp only [Act.put, List.setIfInBounds_toArray, List.set_cons_zero, List.set_cons_succ]
              refine wpAnyH_take (i := 22) (oi := ⟨some 129, _, _, _, _, _⟩) (v := ?vc22) rfl (by kernel_rfl) (by kernel_rfl) (by kernel_rfl) (fun _ _ _ h => h) (Or.inl ⟨by rfl, ?hyc22⟩) hHeld ?restc22
              case hyc22 => (intro w hSw; (try dsimp only at hSw); go_simp; try with_reducible rfl)
              simp only [Act.put, List.setIfInBounds_toArray, List.set_cons_zero, List.set_cons_succ]
              refine wpAnyH_take (i := 24) (oi := ⟨some 131, _, _, _, _, _⟩) (v := ?vc24) rfl (by kernel_rfl) (by kernel_rfl) (by kernel_rfl) (fun _ _ _ h => h) (Or.inl ⟨by rfl, ?hyc24⟩) hHeld ?restc24
              case hyc24 => (intro w hSw; (try dsimp only at hSw); go_simp; try with_reducible rfl)
              simp only [Act.put, List.setIfInBounds_toArray, List.set_cons_zero, List.set_cons_succ]
              refine wpAnyH_take (i := 25) (oi := ⟨some 132, _, _, _, _, _⟩) (v := ?vc25) rfl (by kernel_rfl) (by kernel_rfl) (by kernel_rfl) (fun _ _ _ h => h) (Or.inl ⟨by rfl, ?hyc25⟩) hHeld ?restc25
              case hyc25 => (intro w hSw; (try dsimp only at hSw); go_simp; try with_reducible rfl)
              simp only [Act.put, List.setIfInBounds_toArray, List.set_cons_zero, List.set_cons_succ]
              refine wpAnyH_take (i := 26) (oi := ⟨some 133, _, _, _, _, _⟩) (v := ?vc26) rfl (by kernel_rfl) (by kernel_rfl) (by kernel_rfl) (fun _ _ _ h => h) (Or.inl ⟨by rfl, ?hyc26⟩) hHeld ?restc26
              case hyc26 => (intro w hSw; (try dsimp only at hSw); go_simp; try with_reducible rfl)
              simp only [Act.put, List.setIfInBounds_toArray, List.set_cons_zero, List.set_cons_succ]
              refine wpAnyH_take (i := 27) (oi := ⟨some 134, _, _, _, _, _⟩) (v := ?vc27) rfl (by kernel_rfl) (by kernel_rfl) (by kernel_rfl) (fun _ _ _ h => h) (Or.inl ⟨by rfl, ?hyc27⟩) hHeld ?restc27
              case hyc27 => (intro w hSw; (try dsimp only at hSw); obtain ⟨f0, f1, f2, f3, _⟩ := hSw.2.1.facts; go_simp; try with_reducible rfl)
              simp only [Act.put, List.setIfInBounds_toArray, List.set_cons_zero, List.set_cons_succ]
              refine wpAnyH_take (i := 28) (oi := ⟨some 135, _, _, _, _, _⟩) (v := ?vc28) rfl (by kernel_rfl) (by kernel_rfl) (by kernel_rfl) (fun _ _ _ h => h) (Or.inl ⟨by rfl, ?hyc28⟩) hHeld ?restc28
              case hyc28 => (intro w hSw; (try dsimp only at hSw); go_simp; try with_reducible rfl)
              simp only [Act.put, List.setIfInBounds_toArray, List.set_cons_zero, List.set_cons_succ]
              refine wpAnyH_ready (rs := [23]) (by kernel_rfl) (by simp) ?_
              refine AllReadyH.cons (o := ⟨some 130, _, _, _, _, _⟩) rfl (fun K hK => ?_) AllReadyH.nil
              go_simp
              refine (left_any _ _ _ _ _ _ hHeld.1).mono ?_
              rintro e w' ⟨rfl, mq, rfl⟩
              (try go_wp2_with fail)
              refine hK.out _ _ (⟨hHeld.1.kept fun _ _ _ => rfl, hHeld.2.1, ⟨hHeld.2.2.os, hHeld.2.2.tape, hHeld.2.2.output, hHeld.2.2.size, hHeld.2.2.block⟩⟩) (fun hHeld2 => ?_)
              clear hK K hHeld
              have hHeld := hHeld2
              clear hHeld2
              (try simp only [Act.put, List.setIfInBounds_toArray, List.set_cons_zero, List.set_cons_succ])
              refine wpAnyH_take (i := 29) (oi := ⟨some 136, _, _, _, _, _⟩) (v := ?vc29) rfl (by kernel_rfl) (by kernel_rfl) (by kernel_rfl) (fun _ _ _ h => h) (Or.inl ⟨by rfl, ?hyc29⟩) hHeld ?restc29
              case hyc29 => (intro w hSw; (try dsimp only at hSw); go_simp; try with_reducible rfl)
              simp only [Act.put, List.setIfInBounds_toArray, List.set_cons_zero, List.set_cons_succ]
              refine wpAnyH_take (i := 30) (oi := ⟨some 137, _, _, _, _, _⟩) (v := ?vc30) rfl (by kernel_rfl) (by kernel_rfl) (by kernel_rfl) (fun _ _ _ h => h) (Or.inl ⟨by rfl, ?hyc30⟩) hHeld ?restc30
              case hyc30 => (intro w hSw; (try dsimp only at hSw); go_simp; try with_reducible rfl)
              simp only [Act.put, List.setIfInBounds_toArray, List.set_cons_zero, List.set_cons_succ]
              refine wpAnyH_take (i := 31) (oi := ⟨some 138, _, _, _, _, _⟩) (v := ?vc31) rfl (by kernel_rfl) (by kernel_rfl) (by kernel_rfl) (fun _ _ _ h => h) (Or.inl ⟨by rfl, ?hyc31⟩) hHeld ?restc31
              case hyc31 => (intro w hSw; (try dsimp only at hSw); go_simp; try with_reducible rfl)
              simp only [Act.put, List.setIfInBounds_toArray, List.set_cons_zero, List.set_cons_succ]
              refine wpAnyH_take (i := 32) (oi := ⟨some 139, _, _, _, _, _⟩) (v := ?vc32) rfl (by kernel_rfl) (by kernel_rfl) (by kernel_rfl) (fun _ _ _ h => h) (Or.inl ⟨by rfl, ?hyc32⟩) hHeld ?restc32
              case hyc32 => (intro w hSw; (try dsimp only at hSw); go_simp; try with_reducible rfl)
              simp only [Act.put, List.setIfInBounds_toArray, List.set_cons_zero, List.set_cons_succ]
              refine wpAnyH_take (i := 34) (oi := ⟨some 141, _, _, _, _, _⟩) (v := ?vc34) rfl (by kernel_rfl) (by kernel_rfl) (by kernel_rfl) (fun _ _ _ h => h) (Or.inl ⟨by rfl, ?hyc34⟩) hHeld ?restc34
              case hyc34 => (intro w hSw; (try dsimp only at hSw); obtain ⟨f0, f1, f2, f3, _⟩ := hSw.2.1.facts; go_simp; try with_reducible rfl)
              simp only [Act.put, List.setIfInBounds_toArray, List.set_cons_zero, List.set_cons_succ]
              refine wpAnyH_ready (rs := [33]) (by kernel_rfl) (by simp) ?_
              refine AllReadyH.cons (o := ⟨some 140, _, _, _, _, _⟩) rfl (fun K hK => ?_) AllReadyH.nil
              go_simp
              refine (done_any _ _ _ _ _ _ hHeld.1).mono ?_
              rintro e w' ⟨rfl, mr, rfl⟩
              (try go_wp2_with fail)
              refine hK.out _ _ (⟨hHeld.1.kept fun _ _ _ => rfl, hHeld.2.1, ⟨hHeld.2.2.os, hHeld.2.2.tape, hHeld.2.2.output, hHeld.2.2.size, hHeld.2.2.block⟩⟩) (fun hHeld2 => ?_)
              clear hK K hHeld
              have hHeld := hHeld2
              clear hHeld2
              (try simp only [Act.put, List.setIfInBounds_toArray, List.set_cons_zero, List.set_cons_succ])
              refine wpAnyH_ready (rs := [35]) (by kernel_rfl) (by simp) ?_
              refine AllReadyH.cons (o := ⟨some 142, _, _, _, _, _⟩) rfl (fun K hK => ?_) AllReadyH.nil
              go_simp
              refine (refDone_any a0 c0 p k' y' _).mono ?_
              rintro e w' ⟨rfl, hb⟩
              (try go_wp2_with fail)
              refine hK.out _ _ (⟨hHeld.1.below hb, hHeld.2.1.below hb, below_keep hHeld.2.2 hb hHeld.2.2.size⟩) (fun hHeld2 => ?_)
              clear hK K hHeld
              have hHeld := hHeld2
              clear hHeld2
              (try simp only [Act.put, List.setIfInBounds_toArray, List.set_cons_zero, List.set_cons_succ])
              refine wpAnyH_take (i := 36) (oi := ⟨some 143, _, _, _, _, _⟩) (v := ?vc36) rfl (by kernel_rfl) (by kernel_rfl) (by kernel_rfl) (fun _ _ _ h => h) (Or.inl ⟨by rfl, ?hyc36⟩) hHeld ?restc36
              case hyc36 => (intro w hSw; (try dsimp only at hSw); go_simp; try with_reducible rfl)
              simp only [Act.put, List.setIfInBounds_toArray, List.set_cons_zero, List.set_cons_succ]
              refine wpAnyH_take (i := 37) (oi := ⟨some 144, _, _, _, _, _⟩) (v := ?vc37) rfl (by kernel_rfl) (by kernel_rfl) (by kernel_rfl) (fun _ _ _ h => h) (Or.inl ⟨by rfl, ?hyc37⟩) hHeld ?restc37
              case hyc37 => (intro w hSw; (try dsimp only at hSw); go_simp; try with_reducible rfl)
              simp only [Act.put, List.setIfInBounds_toArray, List.set_cons_zero, List.set_cons_succ]
              refine wpAnyH_done (by kernel_rfl) ?_ _
              have HGn : Hid (RdIs w1.heap.size w' g p k' y') := hHeld.1
              have HXn : Hid (RefAt w' w2.heap.size a0 p.length c0 k' y') := hHeld.2.1
              have HBn : Hid (Below w.heap.size w w') := hHeld.2.2
              clear hHeld hb
              go_wp2
              go_roundw
              case rel => exact ⟨j + 1, k', y', by omega, by go_num, hkk, HGn, HXn, HBn⟩
              case measure => simp [intOf]; omega
            · by_cases hk2 : kind = 2
              · subst hk2
                have HK : Hid ((rdT p k y most).2.1 ≤ p.length) := rdT_at hk
                have HRef : Hid (∀ W, Below w.heap.size w W → Calls Try.prog 20 #[.agg #[.slice a0 p.length c0, .int .i64 (k : Int), .int .i64 y, .int .i64 (badL k y)], .int .i64 most] W fun e w' => e = .returned (.tuple #[.agg #[.slice a0 p.length c0, .int .i64 ((rdT p k y most).2.1 : Int), .int .i64 (rdT p k y most).2.2, .int .i64 (badL (rdT p k y most).2.1 (rdT p k y most).2.2)], .string (txt (rdT p k y most).1)]) ∧ Below W.heap.size W w') := fun W hb => refText_any a0 c0 p k y most W (HV.out.below hb) hk
                have HRdr : Hid (∀ W, RdIs w1.heap.size W g p k y → Calls Try.prog 21 #[.pointer (some ⟨g, 0, none⟩), .int .i64 most] W fun e w' => e = .returned (.string (txt (rdT p k y most).1)) ∧ RdIs w1.heap.size w' g p (rdT p k y most).2.1 (rdT p k y most).2.2 ∧ W.grownBy w' (some g)) := fun W h => text_rd _ g p k y most W h
                generalize rdT p k y most = r at *
                obtain ⟨n, k', y'⟩ := r
                simp only at HK HRef HRdr
                go_wp2_with fail
                clear f0 f1 f2 f3 z0 z1 z2 z3 x1 x2
                have HXd : Hid (RefAt wr.drew w2.heap.size a0 p.length c0 k y) := HX.out.drewN 1
                have HGd : Hid (RdIs w1.heap.size wr.drew g p k y) := HG.out.drewN 1
                obtain ⟨f0, f1, f2, f3, _⟩ := HXd.out.facts
                refine wp_region_held_drew (S := fun W' => W'.cell? ⟨b1, o1 + j * 2 + 1, none⟩ = some (.int .i64 most) ∧ Below w.heap.size w W') (by kernel_rfl) ⟨(HS.out _ HB.out.drew).2, HB.out.drew⟩ (fun hHeld => ?_)
                refine wpAnyH_take (i := 1) (oi := ⟨some 85, _, _, _, _, _⟩) (v := ?vd1) rfl (by kernel_rfl) (by kernel_rfl) (by kernel_rfl) (fun _ _ _ h => h) (Or.inl ⟨by rfl, ?hyd1⟩) hHeld ?restd1
                case hyd1 => (intro w hSw; (try dsimp only at hSw); go_simp; try with_reducible rfl)
                simp only [Act.put, List.setIfInBounds_toArray, List.set_cons_zero, List.set_cons_succ]
                refine wpAnyH_take (i := 2) (oi := ⟨some 86, _, _, _, _, _⟩) (v := ?vd2) rfl (by kernel_rfl) (by kernel_rfl) (by kernel_rfl) (fun _ _ _ h => h) (Or.inl ⟨by rfl, ?hyd2⟩) hHeld ?restd2
                case hyd2 => (intro w hSw; (try dsimp only at hSw); go_simp; try with_reducible rfl)
                simp only [Act.put, List.setIfInBounds_toArray, List.set_cons_zero, List.set_cons_succ]
                refine wpAnyH_take (i := 3) (oi := ⟨some 87, _, _, _, _, _⟩) (v := ?vd3) rfl (by kernel_rfl) (by kernel_rfl) (by kernel_rfl) (fun _ _ _ h => h) (Or.inl ⟨by rfl, ?hyd3⟩) hHeld ?restd3
                case hyd3 => (intro w hSw; (try dsimp only at hSw); go_simp; try with_reducible rfl)
                simp only [Act.put, List.setIfInBounds_toArray, List.set_cons_zero, List.set_cons_succ]
                refine wpAnyH_take (i := 4) (oi := ⟨some 88, _, _, _, _, _⟩) (v := ?vd4) rfl (by kernel_rfl) (by kernel_rfl) (by kernel_rfl) (fun _ _ _ h => h) (Or.inl ⟨by rfl, ?hyd4⟩) hHeld ?restd4
                case hyd4 => (intro w hSw; (try dsimp only at hSw); go_simp; try with_reducible rfl)
                simp only [Act.put, List.setIfInBounds_toArray, List.set_cons_zero, List.set_cons_succ]
                refine wpAnyH_take (i := 5) (oi := ⟨some 89, _, _, _, _, _⟩) (v := ?vd5) rfl (by kernel_rfl) (by kernel_rfl) (by kernel_rfl) (fun _ _ _ h => h) (Or.inl ⟨by rfl, ?hyd5⟩) hHeld ?restd5
                case hyd5 => (intro w hSw; (try dsimp only at hSw); go_simp; try with_reducible rfl)
                simp only [Act.put, List.setIfInBounds_toArray, List.set_cons_zero, List.set_cons_succ]
                refine wpAnyH_ready (rs := [0]) (by kernel_rfl) (by simp) ?_
                refine AllReadyH.cons (o := ⟨some 84, _, _, _, _, _⟩) rfl (fun K hK => ?_) AllReadyH.nil
                go_simp
                refine hK.out _ _ (hHeld) (fun hHeld2 => ?_)
                clear hK K hHeld
                have hHeld := hHeld2
                clear hHeld2
                (try simp only [Act.put, List.setIfInBounds_toArray, List.set_cons_zero, List.set_cons_succ])
                clear f0 f1 f2 f3
                refine wpAnyH_ready (rs := [6]) (by kernel_rfl) (by simp) ?_
                refine AllReadyH.cons (o := ⟨some 90, _, _, _, _, _⟩) rfl (fun K hK => ?_) AllReadyH.nil
                go_simp
                refine (HRef.out _ hHeld.2).mono ?_
                rintro e w' ⟨rfl, hb⟩
                (try go_wp2_with fail)
                refine hK.out _ _ (⟨(HS.out _ (below_keep hHeld.2 hb hHeld.2.size)).2, (below_keep hHeld.2 hb hHeld.2.size)⟩) (fun hHeld2 => ?_)
                clear hK K hHeld
                have hHeld := hHeld2
                clear hHeld2
                (try simp only [Act.put, List.setIfInBounds_toArray, List.set_cons_zero, List.set_cons_succ])
                have HXc : Hid (RefAt w' w2.heap.size a0 p.length c0 k y) := HXd.out.below hb; have HGc : Hid (RdIs w1.heap.size w' g p k y) := HGd.out.below hb; have HBc : Hid (Below w.heap.size w w') := hHeld.2; have HSt : Hid (RefAt ((((w'.setCell ⟨w2.heap.size, 0, none⟩ (.slice a0 p.length c0)).setCell ⟨w2.heap.size, 1, none⟩ (.int .i64 (k' : Int))).setCell ⟨w2.heap.size, 2, none⟩ (.int .i64 y')).setCell ⟨w2.heap.size, 3, none⟩ (.int .i64 (badL k' y'))) w2.heap.size a0 p.length c0 k' y' ∧ w'.grownBy ((((w'.setCell ⟨w2.heap.size, 0, none⟩ (.slice a0 p.length c0)).setCell ⟨w2.heap.size, 1, none⟩ (.int .i64 (k' : Int))).setCell ⟨w2.heap.size, 2, none⟩ (.int .i64 y')).setCell ⟨w2.heap.size, 3, none⟩ (.int .i64 (badL k' y'))) (some w2.heap.size)) := HXc.out.store k' y'; obtain ⟨f0, f1, f2, f3, fz⟩ := HXc.out.facts; have z0 := fz 0; have z1 := fz 1; have z2 := fz 2; have z3 := fz 3; clear fz hb
                refine wpAnyH_take (i := 7) (oi := ⟨some 83, _, _, _, _, _⟩) (v := ?vd7) rfl (by kernel_rfl) (by kernel_rfl) (by kernel_rfl) (fun _ _ _ h => h) (Or.inl ⟨by rfl, ?hyd7⟩) hHeld ?restd7
                case hyd7 => (intro w hSw; (try dsimp only at hSw); go_simp; try with_reducible rfl)
                simp only [Act.put, List.setIfInBounds_toArray, List.set_cons_zero, List.set_cons_succ]
                refine wpAnyH_take (i := 8) (oi := ⟨some 91, _, _, _, _, _⟩) (v := ?vd8) rfl (by kernel_rfl) (by kernel_rfl) (by kernel_rfl) (fun _ _ _ h => h) (Or.inl ⟨by rfl, ?hyd8⟩) hHeld ?restd8
                case hyd8 => (intro w hSw; (try dsimp only at hSw); go_simp; try with_reducible rfl)
                simp only [Act.put, List.setIfInBounds_toArray, List.set_cons_zero, List.set_cons_succ]
                refine wpAnyH_take (i := 9) (oi := ⟨some 92, _, _, _, _, _⟩) (v := ?vd9) rfl (by kernel_rfl) (by kernel_rfl) (by kernel_rfl) (fun _ _ _ h => h) (Or.inl ⟨by rfl, ?hyd9⟩) hHeld ?restd9
                case hyd9 => (intro w hSw; (try dsimp only at hSw); go_simp; try with_reducible rfl)
                simp only [Act.put, List.setIfInBounds_toArray, List.set_cons_zero, List.set_cons_succ]
                refine wpAnyH_ready (rs := [10]) (by kernel_rfl) (by simp) ?_
                refine AllReadyH.cons (o := ⟨none, _, _, _, _, _⟩) rfl (fun K hK => ?_) AllReadyH.nil
                go_simp
                refine hK.out _ _ (⟨(HS.out _ (HBc.out.grown HSt.out.2 HBc.out.size (fun j e => by injection e with e; omega))).2, (HBc.out.grown HSt.out.2 HBc.out.size (fun j e => by injection e with e; omega))⟩) (fun hHeld2 => ?_)
                clear hK K hHeld
                have hHeld := hHeld2
                clear hHeld2
                (try simp only [Act.put, List.setIfInBounds_toArray, List.set_cons_zero, List.set_cons_succ])
                refine wpAnyH_take (i := 11) (oi := ⟨some 11, _, _, _, _, _⟩) (v := ?vd11) rfl (by kernel_rfl) (by kernel_rfl) (by kernel_rfl) (fun _ _ _ h => h) (Or.inl ⟨by rfl, ?hyd11⟩) hHeld ?restd11
                case hyd11 => (intro w hSw; (try dsimp only at hSw); go_simp; try with_reducible rfl)
                simp only [Act.put, List.setIfInBounds_toArray, List.set_cons_zero, List.set_cons_succ]
                refine wpAnyH_done (by kernel_rfl) ?_ _
                have HG6 : Hid (RdIs w1.heap.size ((((w'.setCell ⟨w2.heap.size, 0, none⟩ (.slice a0 p.length c0)).setCell ⟨w2.heap.size, 1, none⟩ (.int .i64 (k' : Int))).setCell ⟨w2.heap.size, 2, none⟩ (.int .i64 y')).setCell ⟨w2.heap.size, 3, none⟩ (.int .i64 (badL k' y'))) g p k y) := HGc.out.refStore HXc.out HSt.out.2
                have HX6 : Hid (RefAt ((((w'.setCell ⟨w2.heap.size, 0, none⟩ (.slice a0 p.length c0)).setCell ⟨w2.heap.size, 1, none⟩ (.int .i64 (k' : Int))).setCell ⟨w2.heap.size, 2, none⟩ (.int .i64 y')).setCell ⟨w2.heap.size, 3, none⟩ (.int .i64 (badL k' y'))) w2.heap.size a0 p.length c0 k' y') := HSt.out.1
                have HB6 : Hid (Below w.heap.size w ((((w'.setCell ⟨w2.heap.size, 0, none⟩ (.slice a0 p.length c0)).setCell ⟨w2.heap.size, 1, none⟩ (.int .i64 (k' : Int))).setCell ⟨w2.heap.size, 2, none⟩ (.int .i64 y')).setCell ⟨w2.heap.size, 3, none⟩ (.int .i64 (badL k' y')))) := hHeld.2
                clear HSt HXc HGc HBc f0 f1 f2 f3 z0 z1 z2 z3 hHeld HXd HGd
                generalize ((((w'.setCell ⟨w2.heap.size, 0, none⟩ (.slice a0 p.length c0)).setCell ⟨w2.heap.size, 1, none⟩ (.int .i64 (k' : Int))).setCell ⟨w2.heap.size, 2, none⟩ (.int .i64 y')).setCell ⟨w2.heap.size, 3, none⟩ (.int .i64 (badL k' y'))) = w6 at *
                obtain ⟨x1, x2⟩ := HS.out _ HB6.out
                go_wp2_with fail
                refine (HRdr.out _ HG6.out).mono ?_
                rintro e w7 ⟨rfl, hr7, hg7⟩
                have HG7 : Hid (RdIs w1.heap.size w7 g p k' y') := hr7
                have HX7 : Hid (RefAt w7 w2.heap.size a0 p.length c0 k' y') := HX6.out.other hg7 (HX6.out.ne HG6.out)
                have HB7 : Hid (Below w.heap.size w w7) := HG6.out.grows HB6.out hg7 hs1 HB6.out.size
                have qn : ((txt n).toList == (txt n).toList) = true := by simp
                clear hr7 hg7 x1 x2 HG6 HX6 HB6 HRdr HRef HG HX HB
                go_wp2_with fail
                refine (why_any _ g p k' y' _ HG7.out).mono ?_
                rintro e w8 ⟨rfl, m8, rfl⟩
                have hkk : k' ≤ p.length := HK.out
                have qy : (y' != y') = false := by simp
                have qb : (badL k' y' != badL k' y') = false := by simp
                have qk : ((k' : Int) != (k' : Int)) = false := by simp
                have ql : ((p.length : Int) - (k' : Int) != (p.length : Int) - (k' : Int)) = false := by simp
                have qw : IntKind.i64.wrap ((p.length : Int) - (k' : Int)) = (p.length : Int) - (k' : Int) := by rw [IntKind.wrap_i64]; omega
                have qd : (doneL p k' y' != doneL p k' y') = false := by simp
                go_wp2_with fail
                refine wp_region_held_drew (S := fun W' => RdIs w1.heap.size W' g p k' y' ∧ RefAt W' w2.heap.size a0 p.length c0 k' y' ∧ Below w.heap.size w W') (by kernel_rfl) ⟨(HG7.out.drewN m8).drewN 1, (HX7.out.drewN m8).drewN 1, below_drewN (below_drewN HB7.out m8) 1⟩ (fun hHeld => ?_)
                refine wpAnyH_take (i := 0) (oi := ⟨some 107, _, _, _, _, _⟩) (v := ?ve0) rfl (by kernel_rfl) (by kernel_rfl) (by kernel_rfl) (fun _ _ _ h => h) (Or.inl ⟨by rfl, ?hye0⟩) hHeld ?reste0
                case hye0 => (intro w hSw; (try dsimp only at hSw); go_simp; try with_reducible rfl)
                simp only [Act.put, List.setIfInBounds_toArray, List.set_cons_zero, List.set_cons_succ]
                refine wpAnyH_take (i := 1) (oi := ⟨some 108, _, _, _, _, _⟩) (v := ?ve1) rfl (by kernel_rfl) (by kernel_rfl) (by kernel_rfl) (fun _ _ _ h => h) (Or.inl ⟨by rfl, ?hye1⟩) hHeld ?reste1
                case hye1 => (intro w hSw; (try dsimp only at hSw); go_simp; try with_reducible rfl)
                simp only [Act.put, List.setIfInBounds_toArray, List.set_cons_zero, List.set_cons_succ]
                refine wpAnyH_take (i := 2) (oi := ⟨some 109, _, _, _, _, _⟩) (v := ?ve2) rfl (by kernel_rfl) (by kernel_rfl) (by kernel_rfl) (fun _ _ _ h => h) (Or.inl ⟨by rfl, ?hye2⟩) hHeld ?reste2
                case hye2 => (intro w hSw; (try dsimp only at hSw); go_simp; try with_reducible rfl)
                simp only [Act.put, List.setIfInBounds_toArray, List.set_cons_zero, List.set_cons_succ]
                refine wpAnyH_take (i := 3) (oi := ⟨some 110, _, _, _, _, _⟩) (v := ?ve3) rfl (by kernel_rfl) (by kernel_rfl) (by kernel_rfl) (fun _ _ _ h => h) (Or.inl ⟨by rfl, ?hye3⟩) hHeld ?reste3
                case hye3 => (intro w hSw; (try dsimp only at hSw); go_simp; try with_reducible rfl)
                simp only [Act.put, List.setIfInBounds_toArray, List.set_cons_zero, List.set_cons_succ]
                refine wpAnyH_take (i := 4) (oi := ⟨some 111, _, _, _, _, _⟩) (v := ?ve4) rfl (by kernel_rfl) (by kernel_rfl) (by kernel_rfl) (fun _ _ _ h => h) (Or.inl ⟨by rfl, ?hye4⟩) hHeld ?reste4
                case hye4 => (intro w hSw; (try dsimp only at hSw); go_simp; try with_reducible rfl)
                simp only [Act.put, List.setIfInBounds_toArray, List.set_cons_zero, List.set_cons_succ]
                refine wpAnyH_take (i := 5) (oi := ⟨some 112, _, _, _, _, _⟩) (v := ?ve5) rfl (by kernel_rfl) (by kernel_rfl) (by kernel_rfl) (fun _ _ _ h => h) (Or.inl ⟨by rfl, ?hye5⟩) hHeld ?reste5
                case hye5 => (intro w hSw; (try dsimp only at hSw); obtain ⟨f0, f1, f2, f3, _⟩ := hSw.2.1.facts; go_simp; try with_reducible rfl)
                simp only [Act.put, List.setIfInBounds_toArray, List.set_cons_zero, List.set_cons_succ]
                refine wpAnyH_take (i := 6) (oi := ⟨some 113, _, _, _, _, _⟩) (v := ?ve6) rfl (by kernel_rfl) (by kernel_rfl) (by kernel_rfl) (fun _ _ _ h => h) (Or.inl ⟨by rfl, ?hye6⟩) hHeld ?reste6
                case hye6 => (intro w hSw; (try dsimp only at hSw); go_simp; try with_reducible rfl)
                simp only [Act.put, List.setIfInBounds_toArray, List.set_cons_zero, List.set_cons_succ]
                refine wpAnyH_take (i := 7) (oi := ⟨some 114, _, _, _, _, _⟩) (v := ?ve7) rfl (by kernel_rfl) (by kernel_rfl) (by kernel_rfl) (fun _ _ _ h => h) (Or.inl ⟨by rfl, ?hye7⟩) hHeld ?reste7
                case hye7 => (intro w hSw; (try dsimp only at hSw); go_simp; try with_reducible rfl)
                simp only [Act.put, List.setIfInBounds_toArray, List.set_cons_zero, List.set_cons_succ]
                refine wpAnyH_take (i := 8) (oi := ⟨some 115, _, _, _, _, _⟩) (v := ?ve8) rfl (by kernel_rfl) (by kernel_rfl) (by kernel_rfl) (fun _ _ _ h => h) (Or.inl ⟨by rfl, ?hye8⟩) hHeld ?reste8
                case hye8 => (intro w hSw; (try dsimp only at hSw); go_simp; try with_reducible rfl)
                simp only [Act.put, List.setIfInBounds_toArray, List.set_cons_zero, List.set_cons_succ]
                refine wpAnyH_take (i := 9) (oi := ⟨some 116, _, _, _, _, _⟩) (v := ?ve9) rfl (by kernel_rfl) (by kernel_rfl) (by kernel_rfl) (fun _ _ _ h => h) (Or.inl ⟨by rfl, ?hye9⟩) hHeld ?reste9
                case hye9 => (intro w hSw; (try dsimp only at hSw); go_simp; try with_reducible rfl)
                simp only [Act.put, List.setIfInBounds_toArray, List.set_cons_zero, List.set_cons_succ]
                refine wpAnyH_take (i := 10) (oi := ⟨some 117, _, _, _, _, _⟩) (v := ?ve10) rfl (by kernel_rfl) (by kernel_rfl) (by kernel_rfl) (fun _ _ _ h => h) (Or.inl ⟨by rfl, ?hye10⟩) hHeld ?reste10
                case hye10 => (intro w hSw; (try dsimp only at hSw); go_simp; try with_reducible rfl)
                simp only [Act.put, List.setIfInBounds_toArray, List.set_cons_zero, List.set_cons_succ]
                refine wpAnyH_take (i := 11) (oi := ⟨some 118, _, _, _, _, _⟩) (v := ?ve11) rfl (by kernel_rfl) (by kernel_rfl) (by kernel_rfl) (fun _ _ _ h => h) (Or.inl ⟨by rfl, ?hye11⟩) hHeld ?reste11
                case hye11 => (intro w hSw; (try dsimp only at hSw); obtain ⟨f0, f1, f2, f3, _⟩ := hSw.2.1.facts; go_simp; try with_reducible rfl)
                simp only [Act.put, List.setIfInBounds_toArray, List.set_cons_zero, List.set_cons_succ]
                refine wpAnyH_take (i := 12) (oi := ⟨some 119, _, _, _, _, _⟩) (v := ?ve12) rfl (by kernel_rfl) (by kernel_rfl) (by kernel_rfl) (fun _ _ _ h => h) (Or.inl ⟨by rfl, ?hye12⟩) hHeld ?reste12
                case hye12 => (intro w hSw; (try dsimp only at hSw); go_simp; try with_reducible rfl)
                simp only [Act.put, List.setIfInBounds_toArray, List.set_cons_zero, List.set_cons_succ]
                refine wpAnyH_take (i := 13) (oi := ⟨some 120, _, _, _, _, _⟩) (v := ?ve13) rfl (by kernel_rfl) (by kernel_rfl) (by kernel_rfl) (fun _ _ _ h => h) (Or.inl ⟨by rfl, ?hye13⟩) hHeld ?reste13
                case hye13 => (intro w hSw; (try dsimp only at hSw); go_simp; try with_reducible rfl)
                simp only [Act.put, List.setIfInBounds_toArray, List.set_cons_zero, List.set_cons_succ]
                refine wpAnyH_take (i := 14) (oi := ⟨some 121, _, _, _, _, _⟩) (v := ?ve14) rfl (by kernel_rfl) (by kernel_rfl) (by kernel_rfl) (fun _ _ _ h => h) (Or.inl ⟨by rfl, ?hye14⟩) hHeld ?reste14
                case hye14 => (intro w hSw; (try dsimp only at hSw); go_simp; try with_reducible rfl)
                simp only [Act.put, List.setIfInBounds_toArray, List.set_cons_zero, List.set_cons_succ]
                refine wpAnyH_take (i := 15) (oi := ⟨some 122, _, _, _, _, _⟩) (v := ?ve15) rfl (by kernel_rfl) (by kernel_rfl) (by kernel_rfl) (fun _ _ _ h => h) (Or.inl ⟨by rfl, ?hye15⟩) hHeld ?reste15
                case hye15 => (intro w hSw; (try dsimp only at hSw); go_simp; try with_reducible rfl)
                simp only [Act.put, List.setIfInBounds_toArray, List.set_cons_zero, List.set_cons_succ]
                refine wpAnyH_take (i := 17) (oi := ⟨some 124, _, _, _, _, _⟩) (v := ?ve17) rfl (by kernel_rfl) (by kernel_rfl) (by kernel_rfl) (fun _ _ _ h => h) (Or.inl ⟨by rfl, ?hye17⟩) hHeld ?reste17
                case hye17 => (intro w hSw; (try dsimp only at hSw); go_simp; try with_reducible rfl)
                simp only [Act.put, List.setIfInBounds_toArray, List.set_cons_zero, List.set_cons_succ]
                refine wpAnyH_take (i := 18) (oi := ⟨some 125, _, _, _, _, _⟩) (v := ?ve18) rfl (by kernel_rfl) (by kernel_rfl) (by kernel_rfl) (fun _ _ _ h => h) (Or.inl ⟨by rfl, ?hye18⟩) hHeld ?reste18
                case hye18 => (intro w hSw; (try dsimp only at hSw); obtain ⟨f0, f1, f2, f3, _⟩ := hSw.2.1.facts; go_simp; try with_reducible rfl)
                simp only [Act.put, List.setIfInBounds_toArray, List.set_cons_zero, List.set_cons_succ]
                refine wpAnyH_ready (rs := [16]) (by kernel_rfl) (by simp) ?_
                refine AllReadyH.cons (o := ⟨some 123, _, _, _, _, _⟩) rfl (fun K hK => ?_) AllReadyH.nil
                go_simp
                refine (at_any _ _ _ _ _ _ hHeld.1).mono ?_
                rintro e w' ⟨rfl, hw⟩; replace hw := hw.symm; subst hw
                (try go_wp2_with fail)
                refine hK.out _ _ (hHeld) (fun hHeld2 => ?_)
                clear hK K hHeld
                have hHeld := hHeld2
                clear hHeld2
                (try simp only [Act.put, List.setIfInBounds_toArray, List.set_cons_zero, List.set_cons_succ])
                refine wpAnyH_take (i := 19) (oi := ⟨some 126, _, _, _, _, _⟩) (v := ?ve19) rfl (by kernel_rfl) (by kernel_rfl) (by kernel_rfl) (fun _ _ _ h => h) (Or.inl ⟨by rfl, ?hye19⟩) hHeld ?reste19
                case hye19 => (intro w hSw; (try dsimp only at hSw); go_simp; try with_reducible rfl)
                simp only [Act.put, List.setIfInBounds_toArray, List.set_cons_zero, List.set_cons_succ]
                refine wpAnyH_take (i := 20) (oi := ⟨some 127, _, _, _, _, _⟩) (v := ?ve20) rfl (by kernel_rfl) (by kernel_rfl) (by kernel_rfl) (fun _ _ _ h => h) (Or.inl ⟨by rfl, ?hye20⟩) hHeld ?reste20
                case hye20 => (intro w hSw; (try dsimp only at hSw); go_simp; try with_reducible rfl)
                simp only [Act.put, List.setIfInBounds_toArray, List.set_cons_zero, List.set_cons_succ]
                refine wpAnyH_take (i := 21) (oi := ⟨some 128, _, _, _, _, _⟩) (v := ?ve21) rfl (by kernel_rfl) (by kernel_rfl) (by kernel_rfl) (fun _ _ _ h => h) (Or.inl ⟨by rfl, ?hye21⟩) hHeld ?reste21
                case hye21 => (intro w hSw; (try dsimp only at hSw); go_simp; try with_reducible rfl)
                simp only [Act.put, List.setIfInBounds_toArray, List.set_cons_zero, List.set_cons_succ]
                refine wpAnyH_take (i := 22) (oi := ⟨some 129, _, _, _, _, _⟩) (v := ?ve22) rfl (by kernel_rfl) (by kernel_rfl) (by kernel_rfl) (fun _ _ _ h => h) (Or.inl ⟨by rfl, ?hye22⟩) hHeld ?reste22
                case hye22 => (intro w hSw; (try dsimp only at hSw); go_simp; try with_reducible rfl)
                simp only [Act.put, List.setIfInBounds_toArray, List.set_cons_zero, List.set_cons_succ]
                refine wpAnyH_take (i := 24) (oi := ⟨some 131, _, _, _, _, _⟩) (v := ?ve24) rfl (by kernel_rfl) (by kernel_rfl) (by kernel_rfl) (fun _ _ _ h => h) (Or.inl ⟨by rfl, ?hye24⟩) hHeld ?reste24
                case hye24 => (intro w hSw; (try dsimp only at hSw); go_simp; try with_reducible rfl)
                simp only [Act.put, List.setIfInBounds_toArray, List.set_cons_zero, List.set_cons_succ]
                refine wpAnyH_take (i := 25) (oi := ⟨some 132, _, _, _, _, _⟩) (v := ?ve25) rfl (by kernel_rfl) (by kernel_rfl) (by kernel_rfl) (fun _ _ _ h => h) (Or.inl ⟨by rfl, ?hye25⟩) hHeld ?reste25
                case hye25 => (intro w hSw; (try dsimp only at hSw); go_simp; try with_reducible rfl)
                simp only [Act.put, List.setIfInBounds_toArray, List.set_cons_zero, List.set_cons_succ]
                refine wpAnyH_take (i := 26) (oi := ⟨some 133, _, _, _, _, _⟩) (v := ?ve26) rfl (by kernel_rfl) (by kernel_rfl) (by kernel_rfl) (fun _ _ _ h => h) (Or.inl ⟨by rfl, ?hye26⟩) hHeld ?reste26
                case hye26 => (intro w hSw; (try dsimp only at hSw); go_simp; try with_reducible rfl)
                simp only [Act.put, List.setIfInBounds_toArray, List.set_cons_zero, List.set_cons_succ]
                refine wpAnyH_take (i := 27) (oi := ⟨some 134, _, _, _, _, _⟩) (v := ?ve27) rfl (by kernel_rfl) (by kernel_rfl) (by kernel_rfl) (fun _ _ _ h => h) (Or.inl ⟨by rfl, ?hye27⟩) hHeld ?reste27
                case hye27 => (intro w hSw; (try dsimp only at hSw); obtain ⟨f0, f1, f2, f3, _⟩ := hSw.2.1.facts; go_simp; try with_reducible rfl)
                simp only [Act.put, List.setIfInBounds_toArray, List.set_cons_zero, List.set_cons_succ]
                refine wpAnyH_take (i := 28) (oi := ⟨some 135, _, _, _, _, _⟩) (v := ?ve28) rfl (by kernel_rfl) (by kernel_rfl) (by kernel_rfl) (fun _ _ _ h => h) (Or.inl ⟨by rfl, ?hye28⟩) hHeld ?reste28
                case hye28 => (intro w hSw; (try dsimp only at hSw); go_simp; try with_reducible rfl)
                simp only [Act.put, List.setIfInBounds_toArray, List.set_cons_zero, List.set_cons_succ]
                refine wpAnyH_ready (rs := [23]) (by kernel_rfl) (by simp) ?_
                refine AllReadyH.cons (o := ⟨some 130, _, _, _, _, _⟩) rfl (fun K hK => ?_) AllReadyH.nil
                go_simp
                refine (left_any _ _ _ _ _ _ hHeld.1).mono ?_
                rintro e w' ⟨rfl, mq, rfl⟩
                (try go_wp2_with fail)
                refine hK.out _ _ (⟨hHeld.1.kept fun _ _ _ => rfl, hHeld.2.1, ⟨hHeld.2.2.os, hHeld.2.2.tape, hHeld.2.2.output, hHeld.2.2.size, hHeld.2.2.block⟩⟩) (fun hHeld2 => ?_)
                clear hK K hHeld
                have hHeld := hHeld2
                clear hHeld2
                (try simp only [Act.put, List.setIfInBounds_toArray, List.set_cons_zero, List.set_cons_succ])
                refine wpAnyH_take (i := 29) (oi := ⟨some 136, _, _, _, _, _⟩) (v := ?ve29) rfl (by kernel_rfl) (by kernel_rfl) (by kernel_rfl) (fun _ _ _ h => h) (Or.inl ⟨by rfl, ?hye29⟩) hHeld ?reste29
                case hye29 => (intro w hSw; (try dsimp only at hSw); go_simp; try with_reducible rfl)
                simp only [Act.put, List.setIfInBounds_toArray, List.set_cons_zero, List.set_cons_succ]
                refine wpAnyH_take (i := 30) (oi := ⟨some 137, _, _, _, _, _⟩) (v := ?ve30) rfl (by kernel_rfl) (by kernel_rfl) (by kernel_rfl) (fun _ _ _ h => h) (Or.inl ⟨by rfl, ?hye30⟩) hHeld ?reste30
                case hye30 => (intro w hSw; (try dsimp only at hSw); go_simp; try with_reducible rfl)
                simp only [Act.put, List.setIfInBounds_toArray, List.set_cons_zero, List.set_cons_succ]
                refine wpAnyH_take (i := 31) (oi := ⟨some 138, _, _, _, _, _⟩) (v := ?ve31) rfl (by kernel_rfl) (by kernel_rfl) (by kernel_rfl) (fun _ _ _ h => h) (Or.inl ⟨by rfl, ?hye31⟩) hHeld ?reste31
                case hye31 => (intro w hSw; (try dsimp only at hSw); go_simp; try with_reducible rfl)
                simp only [Act.put, List.setIfInBounds_toArray, List.set_cons_zero, List.set_cons_succ]
                refine wpAnyH_take (i := 32) (oi := ⟨some 139, _, _, _, _, _⟩) (v := ?ve32) rfl (by kernel_rfl) (by kernel_rfl) (by kernel_rfl) (fun _ _ _ h => h) (Or.inl ⟨by rfl, ?hye32⟩) hHeld ?reste32
                case hye32 => (intro w hSw; (try dsimp only at hSw); go_simp; try with_reducible rfl)
                simp only [Act.put, List.setIfInBounds_toArray, List.set_cons_zero, List.set_cons_succ]
                refine wpAnyH_take (i := 34) (oi := ⟨some 141, _, _, _, _, _⟩) (v := ?ve34) rfl (by kernel_rfl) (by kernel_rfl) (by kernel_rfl) (fun _ _ _ h => h) (Or.inl ⟨by rfl, ?hye34⟩) hHeld ?reste34
                case hye34 => (intro w hSw; (try dsimp only at hSw); obtain ⟨f0, f1, f2, f3, _⟩ := hSw.2.1.facts; go_simp; try with_reducible rfl)
                simp only [Act.put, List.setIfInBounds_toArray, List.set_cons_zero, List.set_cons_succ]
                refine wpAnyH_ready (rs := [33]) (by kernel_rfl) (by simp) ?_
                refine AllReadyH.cons (o := ⟨some 140, _, _, _, _, _⟩) rfl (fun K hK => ?_) AllReadyH.nil
                go_simp
                refine (done_any _ _ _ _ _ _ hHeld.1).mono ?_
                rintro e w' ⟨rfl, mr, rfl⟩
                (try go_wp2_with fail)
                refine hK.out _ _ (⟨hHeld.1.kept fun _ _ _ => rfl, hHeld.2.1, ⟨hHeld.2.2.os, hHeld.2.2.tape, hHeld.2.2.output, hHeld.2.2.size, hHeld.2.2.block⟩⟩) (fun hHeld2 => ?_)
                clear hK K hHeld
                have hHeld := hHeld2
                clear hHeld2
                (try simp only [Act.put, List.setIfInBounds_toArray, List.set_cons_zero, List.set_cons_succ])
                refine wpAnyH_ready (rs := [35]) (by kernel_rfl) (by simp) ?_
                refine AllReadyH.cons (o := ⟨some 142, _, _, _, _, _⟩) rfl (fun K hK => ?_) AllReadyH.nil
                go_simp
                refine (refDone_any a0 c0 p k' y' _).mono ?_
                rintro e w' ⟨rfl, hb⟩
                (try go_wp2_with fail)
                refine hK.out _ _ (⟨hHeld.1.below hb, hHeld.2.1.below hb, below_keep hHeld.2.2 hb hHeld.2.2.size⟩) (fun hHeld2 => ?_)
                clear hK K hHeld
                have hHeld := hHeld2
                clear hHeld2
                (try simp only [Act.put, List.setIfInBounds_toArray, List.set_cons_zero, List.set_cons_succ])
                refine wpAnyH_take (i := 36) (oi := ⟨some 143, _, _, _, _, _⟩) (v := ?ve36) rfl (by kernel_rfl) (by kernel_rfl) (by kernel_rfl) (fun _ _ _ h => h) (Or.inl ⟨by rfl, ?hye36⟩) hHeld ?reste36
                case hye36 => (intro w hSw; (try dsimp only at hSw); go_simp; try with_reducible rfl)
                simp only [Act.put, List.setIfInBounds_toArray, List.set_cons_zero, List.set_cons_succ]
                refine wpAnyH_take (i := 37) (oi := ⟨some 144, _, _, _, _, _⟩) (v := ?ve37) rfl (by kernel_rfl) (by kernel_rfl) (by kernel_rfl) (fun _ _ _ h => h) (Or.inl ⟨by rfl, ?hye37⟩) hHeld ?reste37
                case hye37 => (intro w hSw; (try dsimp only at hSw); go_simp; try with_reducible rfl)
                simp only [Act.put, List.setIfInBounds_toArray, List.set_cons_zero, List.set_cons_succ]
                refine wpAnyH_done (by kernel_rfl) ?_ _
                have HGn : Hid (RdIs w1.heap.size w' g p k' y') := hHeld.1
                have HXn : Hid (RefAt w' w2.heap.size a0 p.length c0 k' y') := hHeld.2.1
                have HBn : Hid (Below w.heap.size w w') := hHeld.2.2
                clear hHeld hb
                go_wp2
                go_roundw
                case rel => exact ⟨j + 1, k', y', by omega, by go_num, hkk, HGn, HXn, HBn⟩
                case measure => simp [intOf]; omega
              · have q0 : (kind == 0) = false := by simp [hk0]
                have q1 : (kind == 1) = false := by simp [hk1]
                have q2 : (kind == 2) = false := by simp [hk2]
                clear hk0 hk1 hk2 z0 z1 z2 z3 f0 f1 f2 f3
                go_wp2_with fail
                refine (why_any _ g p k y _ HG.out).mono ?_
                rintro e w8 ⟨rfl, m8, rfl⟩
                have hkk : k ≤ p.length := hk
                have qy : (y != y) = false := by simp
                have qb : (badL k y != badL k y) = false := by simp
                have qk : ((k : Int) != (k : Int)) = false := by simp
                have ql : ((p.length : Int) - (k : Int) != (p.length : Int) - (k : Int)) = false := by simp
                have qw : IntKind.i64.wrap ((p.length : Int) - (k : Int)) = (p.length : Int) - (k : Int) := by rw [IntKind.wrap_i64]; omega
                have qd : (doneL p k y != doneL p k y) = false := by simp
                go_wp2_with fail
                refine wp_region_held_drew (S := fun W' => RdIs w1.heap.size W' g p k y ∧ RefAt W' w2.heap.size a0 p.length c0 k y ∧ Below w.heap.size w W') (by kernel_rfl) ⟨(HG.out.drewN m8).drewN 1, (HX.out.drewN m8).drewN 1, below_drewN (below_drewN HB.out m8) 1⟩ (fun hHeld => ?_)
                refine wpAnyH_take (i := 0) (oi := ⟨some 107, _, _, _, _, _⟩) (v := ?vf0) rfl (by kernel_rfl) (by kernel_rfl) (by kernel_rfl) (fun _ _ _ h => h) (Or.inl ⟨by rfl, ?hyf0⟩) hHeld ?restf0
                case hyf0 => (intro w hSw; (try dsimp only at hSw); go_simp; try with_reducible rfl)
                simp only [Act.put, List.setIfInBounds_toArray, List.set_cons_zero, List.set_cons_succ]
                refine wpAnyH_take (i := 1) (oi := ⟨some 108, _, _, _, _, _⟩) (v := ?vf1) rfl (by kernel_rfl) (by kernel_rfl) (by kernel_rfl) (fun _ _ _ h => h) (Or.inl ⟨by rfl, ?hyf1⟩) hHeld ?restf1
                case hyf1 => (intro w hSw; (try dsimp only at hSw); go_simp; try with_reducible rfl)
                simp only [Act.put, List.setIfInBounds_toArray, List.set_cons_zero, List.set_cons_succ]
                refine wpAnyH_take (i := 2) (oi := ⟨some 109, _, _, _, _, _⟩) (v := ?vf2) rfl (by kernel_rfl) (by kernel_rfl) (by kernel_rfl) (fun _ _ _ h => h) (Or.inl ⟨by rfl, ?hyf2⟩) hHeld ?restf2
                case hyf2 => (intro w hSw; (try dsimp only at hSw); go_simp; try with_reducible rfl)
                simp only [Act.put, List.setIfInBounds_toArray, List.set_cons_zero, List.set_cons_succ]
                refine wpAnyH_take (i := 3) (oi := ⟨some 110, _, _, _, _, _⟩) (v := ?vf3) rfl (by kernel_rfl) (by kernel_rfl) (by kernel_rfl) (fun _ _ _ h => h) (Or.inl ⟨by rfl, ?hyf3⟩) hHeld ?restf3
                case hyf3 => (intro w hSw; (try dsimp only at hSw); go_simp; try with_reducible rfl)
                simp only [Act.put, List.setIfInBounds_toArray, List.set_cons_zero, List.set_cons_succ]
                refine wpAnyH_take (i := 4) (oi := ⟨some 111, _, _, _, _, _⟩) (v := ?vf4) rfl (by kernel_rfl) (by kernel_rfl) (by kernel_rfl) (fun _ _ _ h => h) (Or.inl ⟨by rfl, ?hyf4⟩) hHeld ?restf4
                case hyf4 => (intro w hSw; (try dsimp only at hSw); go_simp; try with_reducible rfl)
                simp only [Act.put, List.setIfInBounds_toArray, List.set_cons_zero, List.set_cons_succ]
                refine wpAnyH_take (i := 5) (oi := ⟨some 112, _, _, _, _, _⟩) (v := ?vf5) rfl (by kernel_rfl) (by kernel_rfl) (by kernel_rfl) (fun _ _ _ h => h) (Or.inl ⟨by rfl, ?hyf5⟩) hHeld ?restf5
                case hyf5 => (intro w hSw; (try dsimp only at hSw); obtain ⟨f0, f1, f2, f3, _⟩ := hSw.2.1.facts; go_simp; try with_reducible rfl)
                simp only [Act.put, List.setIfInBounds_toArray, List.set_cons_zero, List.set_cons_succ]
                refine wpAnyH_take (i := 6) (oi := ⟨some 113, _, _, _, _, _⟩) (v := ?vf6) rfl (by kernel_rfl) (by kernel_rfl) (by kernel_rfl) (fun _ _ _ h => h) (Or.inl ⟨by rfl, ?hyf6⟩) hHeld ?restf6
                case hyf6 => (intro w hSw; (try dsimp only at hSw); go_simp; try with_reducible rfl)
                simp only [Act.put, List.setIfInBounds_toArray, List.set_cons_zero, List.set_cons_succ]
                refine wpAnyH_take (i := 7) (oi := ⟨some 114, _, _, _, _, _⟩) (v := ?vf7) rfl (by kernel_rfl) (by kernel_rfl) (by kernel_rfl) (fun _ _ _ h => h) (Or.inl ⟨by rfl, ?hyf7⟩) hHeld ?restf7
                case hyf7 => (intro w hSw; (try dsimp only at hSw); go_simp; try with_reducible rfl)
                simp only [Act.put, List.setIfInBounds_toArray, List.set_cons_zero, List.set_cons_succ]
                refine wpAnyH_take (i := 8) (oi := ⟨some 115, _, _, _, _, _⟩) (v := ?vf8) rfl (by kernel_rfl) (by kernel_rfl) (by kernel_rfl) (fun _ _ _ h => h) (Or.inl ⟨by rfl, ?hyf8⟩) hHeld ?restf8
                case hyf8 => (intro w hSw; (try dsimp only at hSw); go_simp; try with_reducible rfl)
                simp only [Act.put, List.setIfInBounds_toArray, List.set_cons_zero, List.set_cons_succ]
                refine wpAnyH_take (i := 9) (oi := ⟨some 116, _, _, _, _, _⟩) (v := ?vf9) rfl (by kernel_rfl) (by kernel_rfl) (by kernel_rfl) (fun _ _ _ h => h) (Or.inl ⟨by rfl, ?hyf9⟩) hHeld ?restf9
                case hyf9 => (intro w hSw; (try dsimp only at hSw); go_simp; try with_reducible rfl)
                simp only [Act.put, List.setIfInBounds_toArray, List.set_cons_zero, List.set_cons_succ]
                refine wpAnyH_take (i := 10) (oi := ⟨some 117, _, _, _, _, _⟩) (v := ?vf10) rfl (by kernel_rfl) (by kernel_rfl) (by kernel_rfl) (fun _ _ _ h => h) (Or.inl ⟨by rfl, ?hyf10⟩) hHeld ?restf10
                case hyf10 => (intro w hSw; (try dsimp only at hSw); go_simp; try with_reducible rfl)
                simp only [Act.put, List.setIfInBounds_toArray, List.set_cons_zero, List.set_cons_succ]
                refine wpAnyH_take (i := 11) (oi := ⟨some 118, _, _, _, _, _⟩) (v := ?vf11) rfl (by kernel_rfl) (by kernel_rfl) (by kernel_rfl) (fun _ _ _ h => h) (Or.inl ⟨by rfl, ?hyf11⟩) hHeld ?restf11
                case hyf11 => (intro w hSw; (try dsimp only at hSw); obtain ⟨f0, f1, f2, f3, _⟩ := hSw.2.1.facts; go_simp; try with_reducible rfl)
                simp only [Act.put, List.setIfInBounds_toArray, List.set_cons_zero, List.set_cons_succ]
                refine wpAnyH_take (i := 12) (oi := ⟨some 119, _, _, _, _, _⟩) (v := ?vf12) rfl (by kernel_rfl) (by kernel_rfl) (by kernel_rfl) (fun _ _ _ h => h) (Or.inl ⟨by rfl, ?hyf12⟩) hHeld ?restf12
                case hyf12 => (intro w hSw; (try dsimp only at hSw); go_simp; try with_reducible rfl)
                simp only [Act.put, List.setIfInBounds_toArray, List.set_cons_zero, List.set_cons_succ]
                refine wpAnyH_take (i := 13) (oi := ⟨some 120, _, _, _, _, _⟩) (v := ?vf13) rfl (by kernel_rfl) (by kernel_rfl) (by kernel_rfl) (fun _ _ _ h => h) (Or.inl ⟨by rfl, ?hyf13⟩) hHeld ?restf13
                case hyf13 => (intro w hSw; (try dsimp only at hSw); go_simp; try with_reducible rfl)
                simp only [Act.put, List.setIfInBounds_toArray, List.set_cons_zero, List.set_cons_succ]
                refine wpAnyH_take (i := 14) (oi := ⟨some 121, _, _, _, _, _⟩) (v := ?vf14) rfl (by kernel_rfl) (by kernel_rfl) (by kernel_rfl) (fun _ _ _ h => h) (Or.inl ⟨by rfl, ?hyf14⟩) hHeld ?restf14
                case hyf14 => (intro w hSw; (try dsimp only at hSw); go_simp; try with_reducible rfl)
                simp only [Act.put, List.setIfInBounds_toArray, List.set_cons_zero, List.set_cons_succ]
                refine wpAnyH_take (i := 15) (oi := ⟨some 122, _, _, _, _, _⟩) (v := ?vf15) rfl (by kernel_rfl) (by kernel_rfl) (by kernel_rfl) (fun _ _ _ h => h) (Or.inl ⟨by rfl, ?hyf15⟩) hHeld ?restf15
                case hyf15 => (intro w hSw; (try dsimp only at hSw); go_simp; try with_reducible rfl)
                simp only [Act.put, List.setIfInBounds_toArray, List.set_cons_zero, List.set_cons_succ]
                refine wpAnyH_take (i := 17) (oi := ⟨some 124, _, _, _, _, _⟩) (v := ?vf17) rfl (by kernel_rfl) (by kernel_rfl) (by kernel_rfl) (fun _ _ _ h => h) (Or.inl ⟨by rfl, ?hyf17⟩) hHeld ?restf17
                case hyf17 => (intro w hSw; (try dsimp only at hSw); go_simp; try with_reducible rfl)
                simp only [Act.put, List.setIfInBounds_toArray, List.set_cons_zero, List.set_cons_succ]
                refine wpAnyH_take (i := 18) (oi := ⟨some 125, _, _, _, _, _⟩) (v := ?vf18) rfl (by kernel_rfl) (by kernel_rfl) (by kernel_rfl) (fun _ _ _ h => h) (Or.inl ⟨by rfl, ?hyf18⟩) hHeld ?restf18
                case hyf18 => (intro w hSw; (try dsimp only at hSw); obtain ⟨f0, f1, f2, f3, _⟩ := hSw.2.1.facts; go_simp; try with_reducible rfl)
                simp only [Act.put, List.setIfInBounds_toArray, List.set_cons_zero, List.set_cons_succ]
                refine wpAnyH_ready (rs := [16]) (by kernel_rfl) (by simp) ?_
                refine AllReadyH.cons (o := ⟨some 123, _, _, _, _, _⟩) rfl (fun K hK => ?_) AllReadyH.nil
                go_simp
                refine (at_any _ _ _ _ _ _ hHeld.1).mono ?_
                rintro e w' ⟨rfl, hw⟩; replace hw := hw.symm; subst hw
                (try go_wp2_with fail)
                refine hK.out _ _ (hHeld) (fun hHeld2 => ?_)
                clear hK K hHeld
                have hHeld := hHeld2
                clear hHeld2
                (try simp only [Act.put, List.setIfInBounds_toArray, List.set_cons_zero, List.set_cons_succ])
                refine wpAnyH_take (i := 19) (oi := ⟨some 126, _, _, _, _, _⟩) (v := ?vf19) rfl (by kernel_rfl) (by kernel_rfl) (by kernel_rfl) (fun _ _ _ h => h) (Or.inl ⟨by rfl, ?hyf19⟩) hHeld ?restf19
                case hyf19 => (intro w hSw; (try dsimp only at hSw); go_simp; try with_reducible rfl)
                simp only [Act.put, List.setIfInBounds_toArray, List.set_cons_zero, List.set_cons_succ]
                refine wpAnyH_take (i := 20) (oi := ⟨some 127, _, _, _, _, _⟩) (v := ?vf20) rfl (by kernel_rfl) (by kernel_rfl) (by kernel_rfl) (fun _ _ _ h => h) (Or.inl ⟨by rfl, ?hyf20⟩) hHeld ?restf20
                case hyf20 => (intro w hSw; (try dsimp only at hSw); go_simp; try with_reducible rfl)
                simp only [Act.put, List.setIfInBounds_toArray, List.set_cons_zero, List.set_cons_succ]
                refine wpAnyH_take (i := 21) (oi := ⟨some 128, _, _, _, _, _⟩) (v := ?vf21) rfl (by kernel_rfl) (by kernel_rfl) (by kernel_rfl) (fun _ _ _ h => h) (Or.inl ⟨by rfl, ?hyf21⟩) hHeld ?restf21
                case hyf21 => (intro w hSw; (try dsimp only at hSw); go_simp; try with_reducible rfl)
                simp only [Act.put, List.setIfInBounds_toArray, List.set_cons_zero, List.set_cons_succ]
                refine wpAnyH_take (i := 22) (oi := ⟨some 129, _, _, _, _, _⟩) (v := ?vf22) rfl (by kernel_rfl) (by kernel_rfl) (by kernel_rfl) (fun _ _ _ h => h) (Or.inl ⟨by rfl, ?hyf22⟩) hHeld ?restf22
                case hyf22 => (intro w hSw; (try dsimp only at hSw); go_simp; try with_reducible rfl)
                simp only [Act.put, List.setIfInBounds_toArray, List.set_cons_zero, List.set_cons_succ]
                refine wpAnyH_take (i := 24) (oi := ⟨some 131, _, _, _, _, _⟩) (v := ?vf24) rfl (by kernel_rfl) (by kernel_rfl) (by kernel_rfl) (fun _ _ _ h => h) (Or.inl ⟨by rfl, ?hyf24⟩) hHeld ?restf24
                case hyf24 => (intro w hSw; (try dsimp only at hSw); go_simp; try with_reducible rfl)
                simp only [Act.put, List.setIfInBounds_toArray, List.set_cons_zero, List.set_cons_succ]
                refine wpAnyH_take (i := 25) (oi := ⟨some 132, _, _, _, _, _⟩) (v := ?vf25) rfl (by kernel_rfl) (by kernel_rfl) (by kernel_rfl) (fun _ _ _ h => h) (Or.inl ⟨by rfl, ?hyf25⟩) hHeld ?restf25
                case hyf25 => (intro w hSw; (try dsimp only at hSw); go_simp; try with_reducible rfl)
                simp only [Act.put, List.setIfInBounds_toArray, List.set_cons_zero, List.set_cons_succ]
                refine wpAnyH_take (i := 26) (oi := ⟨some 133, _, _, _, _, _⟩) (v := ?vf26) rfl (by kernel_rfl) (by kernel_rfl) (by kernel_rfl) (fun _ _ _ h => h) (Or.inl ⟨by rfl, ?hyf26⟩) hHeld ?restf26
                case hyf26 => (intro w hSw; (try dsimp only at hSw); go_simp; try with_reducible rfl)
                simp only [Act.put, List.setIfInBounds_toArray, List.set_cons_zero, List.set_cons_succ]
                refine wpAnyH_take (i := 27) (oi := ⟨some 134, _, _, _, _, _⟩) (v := ?vf27) rfl (by kernel_rfl) (by kernel_rfl) (by kernel_rfl) (fun _ _ _ h => h) (Or.inl ⟨by rfl, ?hyf27⟩) hHeld ?restf27
                case hyf27 => (intro w hSw; (try dsimp only at hSw); obtain ⟨f0, f1, f2, f3, _⟩ := hSw.2.1.facts; go_simp; try with_reducible rfl)
                simp only [Act.put, List.setIfInBounds_toArray, List.set_cons_zero, List.set_cons_succ]
                refine wpAnyH_take (i := 28) (oi := ⟨some 135, _, _, _, _, _⟩) (v := ?vf28) rfl (by kernel_rfl) (by kernel_rfl) (by kernel_rfl) (fun _ _ _ h => h) (Or.inl ⟨by rfl, ?hyf28⟩) hHeld ?restf28
                case hyf28 => (intro w hSw; (try dsimp only at hSw); go_simp; try with_reducible rfl)
                simp only [Act.put, List.setIfInBounds_toArray, List.set_cons_zero, List.set_cons_succ]
                refine wpAnyH_ready (rs := [23]) (by kernel_rfl) (by simp) ?_
                refine AllReadyH.cons (o := ⟨some 130, _, _, _, _, _⟩) rfl (fun K hK => ?_) AllReadyH.nil
                go_simp
                refine (left_any _ _ _ _ _ _ hHeld.1).mono ?_
                rintro e w' ⟨rfl, mq, rfl⟩
                (try go_wp2_with fail)
                refine hK.out _ _ (⟨hHeld.1.kept fun _ _ _ => rfl, hHeld.2.1, ⟨hHeld.2.2.os, hHeld.2.2.tape, hHeld.2.2.output, hHeld.2.2.size, hHeld.2.2.block⟩⟩) (fun hHeld2 => ?_)
                clear hK K hHeld
                have hHeld := hHeld2
                clear hHeld2
                (try simp only [Act.put, List.setIfInBounds_toArray, List.set_cons_zero, List.set_cons_succ])
                refine wpAnyH_take (i := 29) (oi := ⟨some 136, _, _, _, _, _⟩) (v := ?vf29) rfl (by kernel_rfl) (by kernel_rfl) (by kernel_rfl) (fun _ _ _ h => h) (Or.inl ⟨by rfl, ?hyf29⟩) hHeld ?restf29
                case hyf29 => (intro w hSw; (try dsimp only at hSw); go_simp; try with_reducible rfl)
                simp only [Act.put, List.setIfInBounds_toArray, List.set_cons_zero, List.set_cons_succ]
                refine wpAnyH_take (i := 30) (oi := ⟨some 137, _, _, _, _, _⟩) (v := ?vf30) rfl (by kernel_rfl) (by kernel_rfl) (by kernel_rfl) (fun _ _ _ h => h) (Or.inl ⟨by rfl, ?hyf30⟩) hHeld ?restf30
                case hyf30 => (intro w hSw; (try dsimp only at hSw); go_simp; try with_reducible rfl)
                simp only [Act.put, List.setIfInBounds_toArray, List.set_cons_zero, List.set_cons_succ]
                refine wpAnyH_take (i := 31) (oi := ⟨some 138, _, _, _, _, _⟩) (v := ?vf31) rfl (by kernel_rfl) (by kernel_rfl) (by kernel_rfl) (fun _ _ _ h => h) (Or.inl ⟨by rfl, ?hyf31⟩) hHeld ?restf31
                case hyf31 => (intro w hSw; (try dsimp only at hSw); go_simp; try with_reducible rfl)
                simp only [Act.put, List.setIfInBounds_toArray, List.set_cons_zero, List.set_cons_succ]
                refine wpAnyH_take (i := 32) (oi := ⟨some 139, _, _, _, _, _⟩) (v := ?vf32) rfl (by kernel_rfl) (by kernel_rfl) (by kernel_rfl) (fun _ _ _ h => h) (Or.inl ⟨by rfl, ?hyf32⟩) hHeld ?restf32
                case hyf32 => (intro w hSw; (try dsimp only at hSw); go_simp; try with_reducible rfl)
                simp only [Act.put, List.setIfInBounds_toArray, List.set_cons_zero, List.set_cons_succ]
                refine wpAnyH_take (i := 34) (oi := ⟨some 141, _, _, _, _, _⟩) (v := ?vf34) rfl (by kernel_rfl) (by kernel_rfl) (by kernel_rfl) (fun _ _ _ h => h) (Or.inl ⟨by rfl, ?hyf34⟩) hHeld ?restf34
                case hyf34 => (intro w hSw; (try dsimp only at hSw); obtain ⟨f0, f1, f2, f3, _⟩ := hSw.2.1.facts; go_simp; try with_reducible rfl)
                simp only [Act.put, List.setIfInBounds_toArray, List.set_cons_zero, List.set_cons_succ]
                refine wpAnyH_ready (rs := [33]) (by kernel_rfl) (by simp) ?_
                refine AllReadyH.cons (o := ⟨some 140, _, _, _, _, _⟩) rfl (fun K hK => ?_) AllReadyH.nil
                go_simp
                refine (done_any _ _ _ _ _ _ hHeld.1).mono ?_
                rintro e w' ⟨rfl, mr, rfl⟩
                (try go_wp2_with fail)
                refine hK.out _ _ (⟨hHeld.1.kept fun _ _ _ => rfl, hHeld.2.1, ⟨hHeld.2.2.os, hHeld.2.2.tape, hHeld.2.2.output, hHeld.2.2.size, hHeld.2.2.block⟩⟩) (fun hHeld2 => ?_)
                clear hK K hHeld
                have hHeld := hHeld2
                clear hHeld2
                (try simp only [Act.put, List.setIfInBounds_toArray, List.set_cons_zero, List.set_cons_succ])
                refine wpAnyH_ready (rs := [35]) (by kernel_rfl) (by simp) ?_
                refine AllReadyH.cons (o := ⟨some 142, _, _, _, _, _⟩) rfl (fun K hK => ?_) AllReadyH.nil
                go_simp
                refine (refDone_any a0 c0 p k y _).mono ?_
                rintro e w' ⟨rfl, hb⟩
                (try go_wp2_with fail)
                refine hK.out _ _ (⟨hHeld.1.below hb, hHeld.2.1.below hb, below_keep hHeld.2.2 hb hHeld.2.2.size⟩) (fun hHeld2 => ?_)
                clear hK K hHeld
                have hHeld := hHeld2
                clear hHeld2
                (try simp only [Act.put, List.setIfInBounds_toArray, List.set_cons_zero, List.set_cons_succ])
                refine wpAnyH_take (i := 36) (oi := ⟨some 143, _, _, _, _, _⟩) (v := ?vf36) rfl (by kernel_rfl) (by kernel_rfl) (by kernel_rfl) (fun _ _ _ h => h) (Or.inl ⟨by rfl, ?hyf36⟩) hHeld ?restf36
                case hyf36 => (intro w hSw; (try dsimp only at hSw); go_simp; try with_reducible rfl)
                simp only [Act.put, List.setIfInBounds_toArray, List.set_cons_zero, List.set_cons_succ]
                refine wpAnyH_take (i := 37) (oi := ⟨some 144, _, _, _, _, _⟩) (v := ?vf37) rfl (by kernel_rfl) (by kernel_rfl) (by kernel_rfl) (fun _ _ _ h => h) (Or.inl ⟨by rfl, ?hyf37⟩) hHeld ?restf37
                case hyf37 => (intro w hSw; (try dsimp only at hSw); go_simp; try with_reducible rfl)
                simp only [Act.put, List.setIfInBounds_toArray, List.set_cons_zero, List.set_cons_succ]
                refine wpAnyH_done (by kernel_rfl) ?_ _
                have HGn : Hid (RdIs w1.heap.size w' g p k y) := hHeld.1
                have HXn : Hid (RefAt w' w2.heap.size a0 p.length c0 k y) := hHeld.2.1
                have HBn : Hid (Below w.heap.size w w') := hHeld.2.2
                clear hHeld hb
                go_wp2
                go_roundw
                case rel => exact ⟨j + 1, k, y, by omega, by go_num, hkk, HGn, HXn, HBn⟩
                case measure => simp [intOf]; omega
        · go_wp2_with fail
          refine (awake_any _).mono ?_
          rintro e wz ⟨rfl, hbz⟩
          go_wp2
          go_ret
          exact ⟨rfl, HB.out.trans (hbz.mono HB.out.size)⟩

end Go.Proofs.Ytfjejobakknipaa
