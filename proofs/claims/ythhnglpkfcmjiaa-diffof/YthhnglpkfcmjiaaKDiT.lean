/- leave, walked. -/
import Derived.Test.YthhnglpkfcmjiaaKDiS
namespace Go.Proofs.Ythhnglpkfcmjiaa
open Go.RowKit Go.Shelf
set_option linter.unusedVariables false
set_option linter.unusedSimpArgs false
attribute [local go_sem] Oper.semAt_some
set_option maxRecDepth 100000 in
set_option maxHeartbeats 8000000 in
theorem leave_in (n0 : Nat) (hn : 5 ≤ n0) (G G2 : Nat → Prop) (A B : List Sd) (mb : Nat) (t u : VT) (Ba Bb : Nat) (w : World) (hm : MpS w mb A) (hA : A = flatS w t (0, 0) 0 Ba 0) (hB : B = flatS w u (0, 0) 0 Bb 0) (hv : VAt G w t Ba 0) (hu : VAt G2 w u Bb 0) (hnd : (A.map skU).Nodup) (hsz : t.sz ≤ 1048576) :
    CallsIn Fence.wide n0 Try.prog 30 #[.map (some mb), .pointer (some ⟨Ba, 0, none⟩), .pointer (some ⟨Bb, 0, none⟩)] w fun e w' => ∃ v, e = .returned v ∧ OwnPa w.heap.size w' v (eaL (tkL A B) 1 A ++ eaL (gnL A B) 2 A) ∧ Below w.heap.size w w' := by
  have hro : Fence.wide.round = none := rfl
  have h1n : 1 ≤ n0 := by omega
  refine callsIn_of_wp_marksD Try.func30 rfl trivial ?_ hro
  simp only [Try.ntmps30, List.size_toArray, List.length_cons, List.length_nil, Nat.reduceAdd, Nat.reduceSub, Array.replicate_succ, Array.replicate_zero, List.push_toArray, List.append_toArray, List.nil_append, List.cons_append]
  gi_wp2_with fail
  refine ⟨trivial, ?_⟩
  refine (callsIn_wide.2 (cloneM_any mb A _ hm)).mono ?_
  rintro e V1 ⟨rfl, m1, s1, b1⟩
  have m0 := hm.keep (b1.block _ hm.lt)
  gi_wp2_with fail
  refine ⟨trivial, ?_⟩
  refine (callsIn_wide.2 (cloneM_any mb A _ m0)).mono ?_
  rintro e V2 ⟨rfl, m2, s2, b2⟩
  replace m1 := m1.keep (b2.block _ m1.lt)
  rw [s1] at m2 s2 ⊢
  have hb2v : Below w.heap.size w V2 := b1.trans (b2.mono b1.size)
  clear m0 b1 b2 s1
  gi_wp2_with fail
  refine ⟨trivial, ?_⟩
  refine (callsIn_wide.2 (spots_any Bb _)).mono ?_
  rintro e W2 ⟨rfl, hw2⟩
  have hX : Below V2.heap.size V2 W2 := (by rw [hw2]; exact ((((Below.refl _ _).alloc (Nat.le_refl _) _).alloc (by simp <;> omega) _).alloc (by simp <;> omega) _))
  have hs2 : W2.heap.size = w.heap.size + 5 := (by rw [hw2]; simp [s2])
  have hO0 : W2.heap[w.heap.size + 1 + 1]? = some (.cells #[.map (some w.heap.size)] 56) := (by rw [hw2, Below.heap_alloc _ _ _ (by simp <;> omega), Below.heap_alloc _ _ _ (by simp <;> omega)]; have h := heap_alloc_new V2 (.cells #[.map (some w.heap.size)] 56); rw [s2] at h; exact h)
  have hO1 : W2.heap[w.heap.size + 1 + 1 + 1]? = some (.cells #[.map (some (w.heap.size + 1))] 56) := (by rw [hw2, Below.heap_alloc _ _ _ (by simp <;> omega)]; have h := heap_alloc_new (V2.alloc (.cells #[.map (some w.heap.size)] 56)) (.cells #[.map (some (w.heap.size + 1))] 56); rw [show (V2.alloc (.cells #[.map (some w.heap.size)] 56)).heap.size = w.heap.size + 1 + 1 + 1 by simp [s2]] at h; exact h)
  have hO2 : W2.heap[w.heap.size + 1 + 1 + 1 + 1]? = some (.cells #[.pointer (some ⟨Bb, 0, none⟩)] 58) := (by rw [hw2]; have h := heap_alloc_new ((V2.alloc (.cells #[.map (some w.heap.size)] 56)).alloc (.cells #[.map (some (w.heap.size + 1))] 56)) (.cells #[.pointer (some ⟨Bb, 0, none⟩)] 58); rw [show ((V2.alloc (.cells #[.map (some w.heap.size)] 56)).alloc (.cells #[.map (some (w.heap.size + 1))] 56)).heap.size = w.heap.size + 1 + 1 + 1 + 1 by simp [s2]] at h; exact h)
  have eB : ((V2.alloc (.cells #[.map (some w.heap.size)] 56)).alloc (.cells #[.map (some (w.heap.size + 1))] 56)).heap.size = w.heap.size + 1 + 1 + 1 + 1 := by simp [s2]
  rw [eB]
  have hb2 : Below w.heap.size w W2 := hb2v.trans (hX.mono hb2v.size)
  replace m1 : MpS W2 w.heap.size A := m1.keep (hX.block _ m1.lt)
  replace m2 : MpS W2 (w.heap.size + 1) A := m2.keep (hX.block _ (by omega))
  clear eB hw2 hX hb2v s2
  obtain ⟨gn, egn⟩ : ∃ b, b = w.heap.size + 1 := ⟨_, rfl⟩
  obtain ⟨vt, evt⟩ : ∃ b, b = w.heap.size + 1 + 1 := ⟨_, rfl⟩
  obtain ⟨vg, evg⟩ : ∃ b, b = w.heap.size + 1 + 1 + 1 := ⟨_, rfl⟩
  obtain ⟨pb, epb⟩ : ∃ b, b = w.heap.size + 1 + 1 + 1 + 1 := ⟨_, rfl⟩
  obtain ⟨tk, etk⟩ : ∃ b, b = w.heap.size := ⟨_, rfl⟩
  rw [← epb] at hO2 ⊢
  rw [← evg] at hO1 ⊢
  rw [← evt] at hO0 ⊢
  rw [← egn] at hO1 m2 ⊢
  rw [← etk] at hO0 m1 ⊢
  have hne : tk ≠ gn := by omega
  obtain ⟨S, eS⟩ : ∃ S : Nat → Prop, S = fun k => k < W2.heap.size ∧ k ≠ tk ∧ k ≠ gn := ⟨_, rfl⟩
  have hSl : ∀ k, S k → k < W2.heap.size := fun k q => by (rw [eS] at q; exact q.1)
  have hS0 : ∀ k, k < w.heap.size → S k := fun k q => by (rw [eS]; exact ⟨by omega, by omega, by omega⟩)
  have hSt : S vt := by (rw [eS]; exact ⟨by omega, by omega, by omega⟩)
  have hSg : S vg := by (rw [eS]; exact ⟨by omega, by omega, by omega⟩)
  have hlB := cell_lt hu.cells9
  have hva : VAt S W2 u Bb 0 := (hu.turn hb2.size (fun k q l => ⟨hS0 k l, hb2.block k l⟩) (hb2.block _ hlB))
  have HSq := spots_seq (n0 - 1) S W2.heap.size pb Bb u W2 hSl (Nat.le_refl _) (by rw [cell_of_row _ _ _ _ _ _ hO2]; rfl) hva (hS0 _ hlB)
  rw [flatS_same hu hb2 (0, 0) 0, ← hB] at HSq
  have HA0 : DgS w W2 S B0 (M2 tk (tkL A []) gn (gnL A [])) W2 := (by rw [tkL_nil, gnL_nil]; exact ⟨⟨fun _ _ _ e => (by cases e), hb2, KeepsS.refl _ _, hSl, fun _ _ _ e => (by cases e), hb2.size⟩, fun b D e => (by rcases M2.of e with ⟨rfl, rfl⟩ | ⟨rfl, rfl⟩; exact m1; exact m2), fun b D e => (by rcases M2.of e with ⟨rfl, rfl⟩ | ⟨rfl, rfl⟩; exact ⟨fun q => by (rw [eS] at q; exact q.2.1 rfl), by omega, by omega, rfl⟩; exact ⟨fun q => by (rw [eS] at q; exact q.2.2 rfl), by omega, by omega, rfl⟩)⟩)
  have HVt : Hid (S vt ∧ W2.cell? ⟨vt, 0, none⟩ = some (.map (some tk))) := ⟨hSt, by rw [cell_of_row _ _ _ _ _ _ hO0]; rfl⟩
  have HVg : Hid (S vg ∧ W2.cell? ⟨vg, 0, none⟩ = some (.map (some gn))) := ⟨hSg, by rw [cell_of_row _ _ _ _ _ _ hO1]; rfl⟩
  have HAt : Hid (∀ x ∈ B, VAt S W2 x.t x.b x.o ∧ S x.b) := (by rw [hB, ← flatS_same hu hb2 (0, 0) 0]; exact flatS_at hva (hS0 _ hlB))
  have HLt : Hid (tk < W2.heap.size ∧ gn < W2.heap.size ∧ w.heap.size ≤ W2.heap.size ∧ tk ≠ gn) := ⟨by omega, by omega, by omega, hne⟩
  have Hnd := hide9 hnd
  have HB9 := hide9 hB
  have HA9 := hide9 hA
  have Hbw := hide9 hb2
  have Hv9 := hide9 hv
  clear eS hS0 hSt hSg hva hlB hO0 hO1 hO2 hb2 hs2 egn evt evg epb etk hnd hB hA hm m1 m2 hv hu
  gi_wp2
  refine range_K h1n (gf := 52) (lb := #[.pointer (some ⟨pb, 0, none⟩)]) rfl (enters_of Try.func52 (by kernel_rfl) rfl) HSq KpS.trans (fun W l o o' hl ho hc _ => KpS.obj (fun q => by have := hSl l q; omega) ho hc) (Below.refl _ _) (fun _ => rfl)
    (fun k W => DgS w W2 S B0 (M2 tk (tkL A (B.take k)) gn (gnL A (B.take k))) W) (fun _ _ _ => False)
    (fun k A B row h1 hg hr => h1.grown hg hr) (fun c k A B row hf hg hr => hf.elim) HA0
    (fun x a' W => ∃ sb, SbX W2 sb x W ∧ a' = { tmps := #[.map (some mb), .pointer (some ⟨Ba, 0, none⟩), .pointer (some ⟨Bb, 0, none⟩), undef, undef, undef, .slice none 0 0, .pointer (some ⟨vt, 0, none⟩), .pointer (some ⟨vg, 0, none⟩), .pointer (some ⟨sb, 0, none⟩), undef, .map (some mb), .map (some tk), .map (some mb), .map (some gn), .pointer (some ⟨Bb, 0, none⟩), .func (.func 52) #[] #[.pointer (some ⟨pb, 0, none⟩)], .agg #[.pointer (some ⟨x.b, x.o, none⟩), .int .i64 x.a.1, .int .i64 x.a.2, .int .i64 (x.i : Int)], undef, undef, undef, undef, undef, undef, undef, undef, undef, undef, undef, undef, undef, undef, undef, undef, undef, undef, undef, undef, undef, undef, undef], defers := [] }) (fun x a' u A B row ⟨sb, h1, h5⟩ hg hr => ⟨sb, h1.grown hg (fun r e => (hr r e).2), h5⟩) ?assign ?body ?done ?stop
  clear HA0 hne
  case assign =>
    rintro l k hk W K hA hK
    obtain ⟨x, ex⟩ : ∃ x, x = B[k] := ⟨_, rfl⟩
    rw [← ex] at hK ⊢
    clear ex
    have Hz : Hid ((W.alloc (.cells #[.pointer none, .int .i64 0, .int .i64 0, .int .i64 0] 64)).heap[W.heap.size]? = some (.cells #[.pointer none, .int .i64 0, .int .i64 0, .int .i64 0] 64)) := heap_alloc_new _ _
    obtain ⟨Wn, eW⟩ : ∃ X, X = (W.alloc (.cells #[.pointer none, .int .i64 0, .int .i64 0, .int .i64 0] 64)).setRow W.heap.size #[.pointer (some ⟨x.b, x.o, none⟩), .int .i64 x.a.1, .int .i64 x.a.2, .int .i64 (x.i : Int)] := ⟨_, rfl⟩
    have hb : Below W.heap.size W Wn := (by rw [eW]; exact ((Below.refl _ _).alloc (Nat.le_refl _) _).grown (grown_setRow _ _ _) (by simp) (fun k e => by cases e; exact Nat.le_refl _))
    obtain ⟨sb, esb⟩ : ∃ n, n = W.heap.size := ⟨_, rfl⟩
    have hsx : SbX W2 sb x Wn := ⟨by rw [eW, esb]; exact setRow_same Hz.out, by rw [esb]; exact hA.rn.kp.1⟩
    have HFin : Hid (∀ a' : Act, _ → K a' Wn) := fun a' ha => hK a' Wn (keepsFrom_below hb) (hA.kp0 hb) (hA.below hb) ⟨sb, hsx, ha⟩
    have HEw := hide9 (And.intro eW esb)
    clear hK hb hsx eW esb hA
    simp only [encS] at *
    gi_wp2_with (refine wpListIn_store_rowS rfl 64 (.tmp 9) (.tmp 17) rfl W.heap.size 64 #[.pointer none, .int .i64 0, .int .i64 0, .int .i64 0] #[.pointer (some ⟨x.b, x.o, none⟩), .int .i64 x.a.1, .int .i64 x.a.2, .int .i64 (x.i : Int)] rfl rfl Hz.out sizeSp rfl (by simp [Value.oneCell']) ?_)
    rw [← HEw.out.1, ← HEw.out.2]
    exact HFin.out _ rfl
  case body =>
    rintro l k hk a' W hlD hdg ⟨sb, hsx, rfl⟩
    obtain ⟨hxv, hxS⟩ := HAt.out B[k] (List.getElem_mem hk)
    have hD : B.take (k + 1) = B.take k ++ [B[k]] := List.take_succ_eq_append_getElem hk
    obtain ⟨Y, eY⟩ : ∃ D, D = B.take k := ⟨_, rfl⟩
    rw [← eY] at hdg hD
    obtain ⟨x, ex⟩ : ∃ x, x = B[k] := ⟨_, rfl⟩
    rw [← ex] at hxv hxS hD hsx
    obtain ⟨_, _, _, _, kc0, kc1, _⟩ := hxv.cells
    have HX2 : Hid (W2.cell? ⟨x.b, x.o, none⟩ = some (.int .i64 x.t.k.1) ∧ W2.cell? ⟨x.b, x.o + 1, none⟩ = some (.int .i64 x.t.k.2)) := ⟨kc0, kc1⟩
    have HD := hide9 hD
    have HXv : Hid (VAt S W2 x.t x.b x.o ∧ S x.b) := ⟨hxv, hxS⟩
    have HC0 : Hid (DgS w W2 S (B0) (M2 tk (tkL A Y) gn (gnL A Y)) W) := hdg
    have HSb0 : Hid (SbX W2 sb x W) := hsx
    have Hz : Hid ((W.alloc (.cells #[.int .i64 0, .int .i64 0] 23)).heap[W.heap.size]? = some (.cells #[.int .i64 0, .int .i64 0] 23)) := heap_alloc_new _ _
    obtain ⟨W4, eW⟩ : ∃ X, X = (W.alloc (.cells #[.int .i64 0, .int .i64 0] 23)).setRow W.heap.size #[.int .i64 x.t.k.1, .int .i64 x.t.k.2] := ⟨_, rfl⟩
    have hb4 : Below W.heap.size W W4 := (by rw [eW]; exact ((Below.refl _ _).alloc (Nat.le_refl _) _).grown (grown_setRow _ _ _) (by simp) (fun k e => by cases e; exact Nat.le_refl _))
    obtain ⟨kb, ekb⟩ : ∃ n, n = W.heap.size := ⟨_, rfl⟩
    have HK4 : Hid (W4.heap[kb]? = some (.cells #[.int .i64 x.t.k.1, .int .i64 x.t.k.2] 23)) := (by show _ = _; rw [eW, ekb]; exact setRow_same Hz.out)
    have HE4 := hide9 (And.intro eW ekb)
    have Hkb : Hid (W2.heap.size ≤ kb ∧ sb < kb) := ⟨by rw [ekb]; exact hdg.rn.kp.1, by rw [ekb]; exact row_lt hsx.1⟩
    have HC4 : Hid (DgS w W2 S (B0) (M2 tk (tkL A Y) gn (gnL A Y)) W4) := hdg.below hb4
    have HS4 : Hid (SbX W2 sb x W4) := hsx.below hb4
    have HKp4 : Hid (KpS S W2.heap.size W W4) := hdg.kp0 hb4
    have HKf4 : Hid (KeepsFrom W2.heap.size W W4) := keepsFrom_below hb4
    obtain ⟨z0, z1, z2, z3⟩ := row4 hsx.1
    have q6 := (hdg.rn.kp.cell (p := ⟨x.b, x.o, none⟩) hxS).trans kc0
    have q7 := (hdg.rn.kp.cell (p := ⟨x.b, x.o + 1, none⟩) hxS).trans kc1
    clear hxv hxS hD eY ex kc0 kc1 hdg hsx hb4 eW ekb
    gi_wp2_with (refine wpListIn_store_rowS rfl 23 (.tmp 10) (.tmp 22) rfl W.heap.size 23 #[.int .i64 0, .int .i64 0] #[.int .i64 x.t.k.1, .int .i64 x.t.k.2] rfl rfl Hz.out sizeStamp rfl (by simp [Value.oneCell']) ?_; refine StpD.to ?_)
    refine StpD.of ?_
    rw [← HE4.out.1, ← HE4.out.2]
    clear HE4 Hz z0 z1 z2 z3 q6 q7 HC0 HSb0
    obtain ⟨W5, hd5, hg5, hm5⟩ := drop_sd (HC4.out.ms gn _ (M2.at2 HLt.out.2.2.2 _ _)) (nd_filter Hnd.out _) x.t.k 0
    have hcg := HC4.out.store (M2.at2 HLt.out.2.2.2 _ _) hg5 hm5
    rw [M2.set2 HLt.out.2.2.2] at hcg
    have hkm := HC4.out.kpM (M2.at2 HLt.out.2.2.2 _ _) hg5
    have HC5 : Hid (DgS w W2 S (B0) (M2 tk (tkL A Y) gn (gnL A (Y ++ [x]))) W5) := (by show DgS _ _ _ _ _ _; rw [gnL_snoc]; exact hcg)
    have HS5 : Hid (SbX W2 sb x W5) := HS4.out.kp hkm
    have HK5 : Hid (W5.heap[kb]? = some (.cells #[.int .i64 x.t.k.1, .int .i64 x.t.k.2] 23)) := (hg5.block kb (row_lt HK4.out) (fun e => by injection e with e; have := Hkb.out.1; have := HLt.out.2.1; omega)).trans HK4.out
    have HKp5 : Hid (KpS S W2.heap.size W W5) := HKp4.out.trans hkm
    have HKf5 : Hid (KeepsFrom W2.heap.size W W5) := HKf4.out.trans (KeepsFrom.of_grownBy hg5 fun j e => by cases e; exact HLt.out.2.1)
    have q8 : W4.cell? ⟨vg, 0, none⟩ = some (.map (some gn)) := (HC4.out.rn.kp.cell (p := ⟨vg, 0, none⟩) HVg.out.1).trans HVg.out.2
    obtain ⟨y0, y1⟩ := row2d HK4.out
    clear hg5 hm5 hcg hkm HC4 HS4 HK4 HKp4 HKf4
    gi_wp2
    clear hd5 q8 y0 y1
    obtain ⟨lv, pv, hlk, hla⟩ := look1_sd (HC5.out.ms tk _ (M2.at1 _ _ _ _)) x.t.k
    obtain ⟨ab, hab⟩ : ∃ b : Bool, decide ((lv.a.1, lv.a.2) = (x.a.1, x.a.2)) = b := ⟨_, rfl⟩
    have hq : ∀ w9 : World, (binOp .eql 23 (.agg #[.int .i64 lv.a.1, .int .i64 lv.a.2]) (.agg #[.int .i64 x.a.1, .int .i64 x.a.2])).run Try.prog w9 = .ok (.bool ab) w9 := fun w9 => by rw [eqlSt, hab]
    have hfl : ∀ (p q r s : Value) (w9 : World), (Instr.field 64 (.agg #[p, q, r, s]) 1).run Try.prog w9 = .ok (.agg #[q, r]) w9 := fun p q r s w9 => by kernel_rfl
    have HC0 : Hid (DgS w W2 S (B0) (M2 tk (tkL A Y) gn (gnL A (Y ++ [x]))) W5) := HC5
    have HSb0 := HS5
    have HK0 := HK5
    cases ab with
    | true =>
      have Hab : Hid (abvL (tkL A Y) (skU x) = x.a) := (by show _ = _; rw [← show lv.a = abvL (tkL A Y) (skU x) from hla]; have h9 := of_decide_eq_true hab; exact Prod.ext (congrArg Prod.fst h9) (congrArg Prod.snd h9))
      clear hab hla
      refine region_round_held (S := fun W' => KeepsS (fun k => S k ∨ k = sb ∨ k = kb ∨ k = tk) W5 W') l (by kernel_rfl) (by kernel_rfl) (lets_then (lets_block lets_roundK)) (KeepsS.of_below (Below.refl W5.heap.size W5).drew (fun k q => by rcases q with q | rfl | rfl | rfl; exact Nat.lt_of_lt_of_le (HC0.out.rn.sl k q) HC0.out.rn.kp.1; exact row_lt HSb0.out.1; exact row_lt HK0.out; exact (HC0.out.ms _ _ (M2.at1 _ _ _ _)).lt)) (fun hHeld => ?_)
      obtain ⟨Ul11u0, eW⟩ : ∃ X, X = W5.drew := ⟨_, rfl⟩
      have hb : Below W5.heap.size W5 Ul11u0 := by rw [eW]; exact (Below.refl _ _).drew
      replace HC5 : Hid (DgS w W2 S (B0) (M2 tk (tkL A Y) gn (gnL A (Y ++ [x]))) Ul11u0) := HC5.out.below hb
      replace HS5 : Hid (SbX W2 sb x Ul11u0) := HS5.out.below hb
      replace HK5 : Hid (Ul11u0.heap[kb]? = some (.cells #[.int .i64 x.t.k.1, .int .i64 x.t.k.2] 23)) := (hb.block _ (row_lt HK5.out)).trans HK5.out
      replace HKp5 : Hid (KpS S W2.heap.size W Ul11u0) := HKp5.out.trans (HC0.out.kp0 hb)
      replace HKf5 : Hid (KeepsFrom W2.heap.size W Ul11u0) := HKf5.out.trans (keepsFrom_below hb)
      rw [← eW] at hHeld ⊢
      clear eW hb
      refine tkW 0 (some 25) (v := ?_) ?_ hHeld ?_
      rotate_left
      · (intro ww hSw; (try dsimp only at hSw); have q0 : ww.cell? ⟨vt, 0, none⟩ = some (.map (some tk)) := (hSw.cell (p := ⟨vt, 0, none⟩) (.inl HVt.out.1)).trans ((HC0.out.rn.kp.cell (p := ⟨vt, 0, none⟩) HVt.out.1).trans HVt.out.2); go_simp; try with_reducible rfl)
      refine tkW 1 (some 26) (v := ?_) ?_ hHeld ?_
      rotate_left
      · (intro ww hSw; (try dsimp only at hSw); obtain ⟨y0, y1⟩ := row2d ((hSw.2 kb (.inr (.inr (.inl rfl)))).trans HK0.out); go_simp; try with_reducible rfl)
      refine tkW 2 (some 27) (v := ?_) ?_ hHeld ?_
      rotate_left
      · (intro ww hSw; (try dsimp only at hSw); have hl9 := hlk ww (hSw.2 tk (.inr (.inr (.inr rfl)))); go_simp; try with_reducible rfl)
      refine tkW 3 (some 28) (v := ?_) ?_ hHeld ?_
      rotate_left
      · (intro ww hSw; (try dsimp only at hSw); go_simp; try with_reducible rfl)
      refine tkW 4 (some 29) (v := ?_) ?_ hHeld ?_
      rotate_left
      · (intro ww _; go_simp; try with_reducible rfl)
      refine tkW 5 (some 30) (v := ?_) ?_ hHeld ?_
      rotate_left
      · (intro ww hSw; (try dsimp only at hSw); obtain ⟨z0, z1, z2, z3⟩ := row4 ((hSw.2 sb (.inr (.inl rfl))).trans HSb0.out.1); go_simp; try with_reducible rfl)
      refine tkW 6 (some 31) (v := ?_) ?_ hHeld ?_
      rotate_left
      · (intro ww hSw; (try dsimp only at hSw); go_simp; try with_reducible rfl)
      refine wpAnyH_done (by kernel_rfl) ?_ _
      clear hHeld hlk hq hfl
      obtain ⟨W7, hd7, hg7, hm7⟩ := drop_sd (HC5.out.ms tk _ (M2.at1 _ _ _ _)) (nd_filter Hnd.out _) x.t.k 0
      have hcg := HC5.out.store (M2.at1 _ _ _ _) hg7 hm7
      rw [M2.set1] at hcg
      have hkm := HC5.out.kpM (M2.at1 _ _ _ _) hg7
      have HC7 : Hid (DgS w W2 S (B0) (M2 tk (tkL A (Y ++ [x])) gn (gnL A (Y ++ [x]))) W7) := (by show DgS _ _ _ _ _ _; rw [tk_yes (nd_filter Hnd.out _) Hab.out]; exact hcg)
      have HKp7 : Hid (KpS S W2.heap.size W W7) := HKp5.out.trans hkm
      have HKf7 : Hid (KeepsFrom W2.heap.size W W7) := HKf5.out.trans (KeepsFrom.of_grownBy hg7 fun j e => by cases e; exact HLt.out.1)
      have q0 : Ul11u0.cell? ⟨vt, 0, none⟩ = some (.map (some tk)) := (HC5.out.rn.kp.cell (p := ⟨vt, 0, none⟩) HVt.out.1).trans HVt.out.2
      obtain ⟨y0, y1⟩ := row2d HK5.out
      clear hg7 hm7 hcg hkm HC5 HS5 HK5 HKp5 HKf5 HC0 HSb0 HK0
      gi_wp2
      exact ⟨HKf7.out, HKp7.out, (by show DgS w W2 S B0 (M2 tk (tkL A (B.take (k + 1))) gn (gnL A (B.take (k + 1)))) _; rw [HD.out]; exact HC7.out)⟩
    | false =>
      have Hab : Hid (abvL (tkL A Y) (skU x) ≠ x.a) := (by intro e; rw [← show lv.a = abvL (tkL A Y) (skU x) from hla] at e; have h9 := of_decide_eq_false hab; exact h9 (by rw [e]))
      clear hab hla
      refine region_round_held (S := fun W' => KeepsS (fun k => S k ∨ k = sb ∨ k = kb ∨ k = tk) W5 W') l (by kernel_rfl) (by kernel_rfl) (lets_then (lets_block lets_roundK)) (KeepsS.of_below (Below.refl W5.heap.size W5).drew (fun k q => by rcases q with q | rfl | rfl | rfl; exact Nat.lt_of_lt_of_le (HC0.out.rn.sl k q) HC0.out.rn.kp.1; exact row_lt HSb0.out.1; exact row_lt HK0.out; exact (HC0.out.ms _ _ (M2.at1 _ _ _ _)).lt)) (fun hHeld => ?_)
      obtain ⟨Ul02u0, eW⟩ : ∃ X, X = W5.drew := ⟨_, rfl⟩
      have hb : Below W5.heap.size W5 Ul02u0 := by rw [eW]; exact (Below.refl _ _).drew
      replace HC5 : Hid (DgS w W2 S (B0) (M2 tk (tkL A Y) gn (gnL A (Y ++ [x]))) Ul02u0) := HC5.out.below hb
      replace HS5 : Hid (SbX W2 sb x Ul02u0) := HS5.out.below hb
      replace HK5 : Hid (Ul02u0.heap[kb]? = some (.cells #[.int .i64 x.t.k.1, .int .i64 x.t.k.2] 23)) := (hb.block _ (row_lt HK5.out)).trans HK5.out
      replace HKp5 : Hid (KpS S W2.heap.size W Ul02u0) := HKp5.out.trans (HC0.out.kp0 hb)
      replace HKf5 : Hid (KeepsFrom W2.heap.size W Ul02u0) := HKf5.out.trans (keepsFrom_below hb)
      rw [← eW] at hHeld ⊢
      clear eW hb
      refine tkW 0 (some 25) (v := ?_) ?_ hHeld ?_
      rotate_left
      · (intro ww hSw; (try dsimp only at hSw); have q0 : ww.cell? ⟨vt, 0, none⟩ = some (.map (some tk)) := (hSw.cell (p := ⟨vt, 0, none⟩) (.inl HVt.out.1)).trans ((HC0.out.rn.kp.cell (p := ⟨vt, 0, none⟩) HVt.out.1).trans HVt.out.2); go_simp; try with_reducible rfl)
      refine tkW 1 (some 26) (v := ?_) ?_ hHeld ?_
      rotate_left
      · (intro ww hSw; (try dsimp only at hSw); obtain ⟨y0, y1⟩ := row2d ((hSw.2 kb (.inr (.inr (.inl rfl)))).trans HK0.out); go_simp; try with_reducible rfl)
      refine tkW 2 (some 27) (v := ?_) ?_ hHeld ?_
      rotate_left
      · (intro ww hSw; (try dsimp only at hSw); have hl9 := hlk ww (hSw.2 tk (.inr (.inr (.inr rfl)))); go_simp; try with_reducible rfl)
      refine tkW 3 (some 28) (v := ?_) ?_ hHeld ?_
      rotate_left
      · (intro ww hSw; (try dsimp only at hSw); go_simp; try with_reducible rfl)
      refine tkW 4 (some 29) (v := ?_) ?_ hHeld ?_
      rotate_left
      · (intro ww _; go_simp; try with_reducible rfl)
      refine tkW 5 (some 30) (v := ?_) ?_ hHeld ?_
      rotate_left
      · (intro ww hSw; (try dsimp only at hSw); obtain ⟨z0, z1, z2, z3⟩ := row4 ((hSw.2 sb (.inr (.inl rfl))).trans HSb0.out.1); go_simp; try with_reducible rfl)
      refine tkW 6 (some 31) (v := ?_) ?_ hHeld ?_
      rotate_left
      · (intro ww hSw; (try dsimp only at hSw); go_simp; try with_reducible rfl)
      refine wpAnyH_done (by kernel_rfl) ?_ _
      clear hHeld hlk hq hfl
      gi_wp2
      exact ⟨HKf5.out, HKp5.out, (by show DgS w W2 S B0 (M2 tk (tkL A (B.take (k + 1))) gn (gnL A (B.take (k + 1)))) _; rw [HD.out, tk_no (nd_filter Hnd.out _) Hab.out]; exact HC5.out)⟩
  case done =>
    rintro Dd W hDd hA hDf
    rw [List.take_length] at hA
    have HM1 : Hid (MpS W tk (tkL A B)) := hA.ms _ _ (M2.at1 _ _ _ _)
    have HM2 : Hid (MpS W gn (gnL A B)) := hA.ms _ _ (M2.at2 HLt.out.2.2.2 _ _)
    have HDf := hide9 hDf
    have Hbw2 : Hid (Below w.heap.size w W) := hA.rn.bel
    have HT9 : Hid (vt < W.heap.size ∧ W.cell? ⟨vt, 0, none⟩ = some (.map (some tk))) := ⟨Nat.lt_of_lt_of_le (hSl _ HVt.out.1) hA.rn.kp.1, (hA.rn.kp.cell (p := ⟨vt, 0, none⟩) HVt.out.1).trans HVt.out.2⟩
    have HG9 : Hid (vg < W.heap.size ∧ W.cell? ⟨vg, 0, none⟩ = some (.map (some gn))) := ⟨Nat.lt_of_lt_of_le (hSl _ HVg.out.1) hA.rn.kp.1, (hA.rn.kp.cell (p := ⟨vg, 0, none⟩) HVg.out.1).trans HVg.out.2⟩
    have HE9 : Hid (∀ W9 : World, Below w.heap.size w W9 → flatS W9 t (0, 0) 0 Ba 0 = A) := fun W9 h9 => (by rw [flatS_same Hv9.out h9 (0, 0) 0, ← HA9.out])
    have HAl : Hid (A.length ≤ 1048576) := (by show _ ≤ _; rw [HA9.out, flatS_len]; exact hsz)
    clear hA hDf
    gi_wp2
    refine wpIn_wide.2 ?_
    refine wp_region_held_drew (S := fun W' => Below W.heap.size W W') (by kernel_rfl) (Below.refl _ _).drew (fun hHeld => ?_)
    obtain ⟨Un3u0, eW⟩ : ∃ X, X = W.drew := ⟨_, rfl⟩
    have hb : Below W.heap.size W Un3u0 := by rw [eW]; exact (Below.refl _ _).drew
    rw [← eW] at hHeld ⊢
    clear eW hb
    refine tkW 0 (some 34) (v := ?_) ?_ hHeld ?_
    rotate_left
    · (intro ww hSw; (try dsimp only at hSw); have q0 : ww.cell? ⟨vt, 0, none⟩ = some (.map (some tk)) := (hSw.cell (p := ⟨vt, 0, none⟩) HT9.out.1).trans HT9.out.2; go_simp; try with_reducible rfl)
    refine tkW 1 (some 35) (v := ?_) ?_ hHeld ?_
    rotate_left
    · (intro ww _; go_simp; try with_reducible rfl)
    refine tkW 3 (some 37) (v := ?_) ?_ hHeld ?_
    rotate_left
    · (intro ww hSw; (try dsimp only at hSw); have q0 : ww.cell? ⟨vg, 0, none⟩ = some (.map (some gn)) := (hSw.cell (p := ⟨vg, 0, none⟩) HG9.out.1).trans HG9.out.2; go_simp; try with_reducible rfl)
    refine tkW 4 (some 38) (v := ?_) ?_ hHeld ?_
    rotate_left
    · (intro ww _; go_simp; try with_reducible rfl)
    refine wpAnyH_ready (rs := [2]) (by kernel_rfl) (by simp) ?_
    refine AllReadyH.cons (o := ⟨some 36, _, _, _, _, _⟩) rfl (fun K hK => ?_) AllReadyH.nil
    go_simp
    refine (each_any G (tkL A B) tk 1 t Ba _ (HM1.out.keep (hHeld.block _ HM1.out.lt)) (Hv9.out.turn (Nat.le_trans Hbw2.out.size hHeld.size) (fun k q l9 => ⟨q, (hHeld.block k (Nat.lt_of_lt_of_le l9 Hbw2.out.size)).trans (Hbw2.out.block k l9)⟩) ((hHeld.block _ (Nat.lt_of_lt_of_le (cell_lt Hv9.out.cells9) Hbw2.out.size)).trans (Hbw2.out.block _ (cell_lt Hv9.out.cells9)))) hsz).mono ?_
    rintro e Un3u1 ⟨v1, rfl, ho9, hb⟩
    rw [HE9.out Un3u0 (Hbw2.out.trans (hHeld.mono Hbw2.out.size))] at ho9
    have HO1 : Hid (OwnPa W.heap.size Un3u1 v1 (eaL (tkL A B) 1 A)) := OwnE.low ho9 hHeld.size
    have hkp : Below W.heap.size W Un3u1 := hHeld.trans (hb.mono hHeld.size)
    clear ho9
    (try go_wp2_with fail)
    refine hK.out _ _ (hkp) (fun hHeld2 => ?_)
    clear hK K hHeld
    have hHeld := hHeld2
    clear hHeld2
    (try simp only [Act.put, List.setIfInBounds_toArray, List.set_cons_zero, List.set_cons_succ])
    clear hkp
    (try replace HO2 := hide9 (OwnE.below HO2.out hb))
    clear hb
    refine wpAnyH_ready (rs := [5]) (by kernel_rfl) (by simp) ?_
    refine AllReadyH.cons (o := ⟨some 39, _, _, _, _, _⟩) rfl (fun K hK => ?_) AllReadyH.nil
    go_simp
    refine (each_any G (gnL A B) gn 2 t Ba _ (HM2.out.keep (hHeld.block _ HM2.out.lt)) (Hv9.out.turn (Nat.le_trans Hbw2.out.size hHeld.size) (fun k q l9 => ⟨q, (hHeld.block k (Nat.lt_of_lt_of_le l9 Hbw2.out.size)).trans (Hbw2.out.block k l9)⟩) ((hHeld.block _ (Nat.lt_of_lt_of_le (cell_lt Hv9.out.cells9) Hbw2.out.size)).trans (Hbw2.out.block _ (cell_lt Hv9.out.cells9)))) hsz).mono ?_
    rintro e Un3u2 ⟨v2, rfl, ho9, hb⟩
    rw [HE9.out Un3u1 (Hbw2.out.trans (hHeld.mono Hbw2.out.size))] at ho9
    have HO2 : Hid (OwnPa W.heap.size Un3u2 v2 (eaL (gnL A B) 2 A)) := OwnE.low ho9 hHeld.size
    have hkp : Below W.heap.size W Un3u2 := hHeld.trans (hb.mono hHeld.size)
    clear ho9
    (try go_wp2_with fail)
    refine hK.out _ _ (hkp) (fun hHeld2 => ?_)
    clear hK K hHeld
    have hHeld := hHeld2
    clear hHeld2
    (try simp only [Act.put, List.setIfInBounds_toArray, List.set_cons_zero, List.set_cons_succ])
    clear hkp
    (try replace HO1 := hide9 (OwnE.below HO1.out hb))
    clear hb
    refine wpAnyH_ready (rs := [6]) (by kernel_rfl) (by simp) ?_
    refine AllReadyH.cons (o := ⟨some 40, _, _, _, _, _⟩) rfl (fun K hK => ?_) AllReadyH.nil
    refine step_appPs rfl _ _ (by rfl) W.heap.size v1 v2 (eaL (tkL A B) 1 A) (eaL (gnL A B) 2 A) (by rfl) HO1.out (by rfl) (OwnE.lsE pzLen HO2.out (Nat.le_trans (eaL_len _ _ _) (by have := HAl.out; omega)) (fun _ _ => trivial : ∀ k, _ → (fun _ => True) k)) (by have h1 := eaL_len (tkL A B) 1 A; have h2 := eaL_len (gnL A B) 2 A; have := HAl.out; omega) hHeld.size ?_
    intro vv Un3u3 hov hgv
    have HOv := hide9 hov
    have hkp : Below W.heap.size W Un3u3 := hHeld.grown hgv hHeld.size (fun k e => (OwnE.lt HO1.out k e).1)
    clear hov hgv
    refine hK.out _ _ (hkp) (fun hHeld2 => ?_)
    clear hK K hHeld
    have hHeld := hHeld2
    clear hHeld2
    (try simp only [Act.put, List.setIfInBounds_toArray, List.set_cons_zero, List.set_cons_succ])
    have HBv := hide9 hkp
    clear hkp HO1 HO2
    refine tkW 7 (some 6) (v := ?_) ?_ hHeld ?_
    rotate_left
    · (intro ww _; go_simp; try with_reducible rfl)
    refine wpAnyH_done (by kernel_rfl) ?_ _
    clear hHeld
    gi_wp2
    refine ⟨by simp, .inl ⟨_, _, rfl, run_takeDeferred ((HBv.out.block _ (row_lt HDf.out)).trans HDf.out), ?_⟩⟩
    have hp9 := grownBy_putObj' Un3u3 Dd (.deferred none)
    have hO2 : OwnPa W.heap.size (Un3u3.putObj Dd (.deferred none)) vv (eaL (tkL A B) 1 A ++ eaL (gnL A B) 2 A) := OwnE.keep HOv.out fun j e => hp9.block j (OwnE.lt HOv.out j e).2 (fun e2 => by injection e2 with e2; have := (OwnE.lt HOv.out j e).1; have := row_lt HDf.out; omega)
    exact ⟨_, results_tmp rfl _ _ _, vv, rfl, OwnE.low hO2 Hbw2.out.size, (Hbw2.out.trans (HBv.out.mono Hbw2.out.size)).grown hp9 (Hbw2.out.trans (HBv.out.mono Hbw2.out.size)).size (fun k e => by cases e; have := HLt.out.2.2.1; omega)⟩
  case stop =>
    rintro D9 c k W hD hk hf; exact hf.elim
end Go.Proofs.Ythhnglpkfcmjiaa
