/- LwwAny. -/
import Derived.Test.YtoljacnipkibiaaLwL
import Derived.Test.YtoljacnipkibiaaLwG
import Derived.Test.YtoljacnipkibiaaLwH
import Derived.Deep.Cut
namespace Go.Proofs.Ytoljacnipkibiaa
open Go.RowKit
set_option linter.unusedVariables false
set_option linter.unusedSimpArgs false
section
variable {α : Type} {enc : α → List Value} {n : Nat}
theorem flat_pre (hn : ∀ x, (enc x).length = n) {R : List α} {f j : Nat} {u : Value} (h : (flatE enc (R.take f))[j]? = some u) : (flatE enc R)[j]? = some u := by
  have e : flatE enc R = flatE enc (R.take f) ++ flatE enc (R.drop f) := by rw [← flatE_append, List.take_append_drop]
  rw [e, List.getElem?_append_left (List.getElem?_eq_some_iff.1 h).1]
  exact h
theorem flat_suf (hn : ∀ x, (enc x).length = n) {R : List α} {f j : Nat} {u : Value} (hf : f ≤ R.length) (h : (flatE enc (R.drop f))[j]? = some u) : (flatE enc R)[f * n + j]? = some u := by
  have e : flatE enc R = flatE enc (R.take f) ++ flatE enc (R.drop f) := by rw [← flatE_append, List.take_append_drop]
  have hl : (flatE enc (R.take f)).length = f * n := by rw [flatE_length hn, List.length_take, Nat.min_eq_left hf]
  rw [e, List.getElem?_append_right (by omega), hl, Nat.add_sub_cancel_left]
  exact h
theorem src2 (hn : ∀ x, (enc x).length = n) {W : World} {b o f cap m : Nat} {D : List α} (h : ∀ j u, (flatE enc D)[j]? = some u → W.cell? ⟨b, o + (f + 1) * n + j, none⟩ = some u) (hb : b < W.heap.size) (hc : m ≤ cap) (hl : D.length = m - (f + 1)) : ∃ A : Addr, (if cap = f + 1 then some (⟨b, o, none⟩ : Addr) else some ⟨b, o + (f + 1) * n, none⟩) = some A ∧ Hid (∀ V : World, Below W.heap.size W V → ∀ j u, (flatE enc D)[j]? = some u → V.cell? (A.add j) = some u) := by
  by_cases h9 : cap = f + 1
  · refine ⟨⟨b, o, none⟩, by simp [h9], fun V _ j u hj => ?_⟩
    have h1 := (List.getElem?_eq_some_iff.1 hj).1
    have h2 : D = [] := List.eq_nil_of_length_eq_zero (by omega)
    rw [h2] at h1
    simp [flatE] at h1
  · refine ⟨⟨b, o + (f + 1) * n, none⟩, by simp [h9], fun V hV j u hj => ?_⟩
    rw [Addr.add_lit]
    exact (hV.cell (p := ⟨b, _, none⟩) hb).trans (h j u hj)
variable {T : TypeId} {B : Nat} {w w' : World} {v : Value} {D : List α}
theorem OwnE.touch (h : OwnE enc n T B w v D) {F : Nat → Prop} (ht : Touch F w w') (hF : ∀ k, F k → k < B) : OwnE enc n T B w' v D := h.keep fun k e => ht.block k (h.lt k e).2 fun hf => by have h1 := hF k hf; have h2 := (h.lt k e).1; omega
end

theorem hide8 {p : Prop} (h : p) : Hid p := h
theorem flat_rg (D : List Rg) : ∀ u ∈ flatE rgCells D, u.oneCell' = true := by
  intro u hu
  obtain ⟨x, _, hx⟩ := List.mem_flatMap.1 hu
  exact rgCells_one x u hx
theorem from_lt (x : Int) {n : Nat} (h0 : 0 < n) (h1 : n ≤ 4096) : ∃ f : Nat, f < n ∧ wrap64 ((IntKind.u64.wrap x).tmod (n : Int)) = (f : Int) := by
  have hx : 0 ≤ IntKind.u64.wrap x := by show 0 ≤ x % 18446744073709551616; omega
  rw [Int.tmod_eq_emod_of_nonneg hx]
  have h2 : 0 ≤ IntKind.u64.wrap x % (n : Int) := Int.emod_nonneg _ (by omega)
  have h3 : IntKind.u64.wrap x % (n : Int) < n := Int.emod_lt_of_pos _ (by omega)
  refine ⟨(IntKind.u64.wrap x % (n : Int)).toNat, by omega, ?_⟩
  rw [Int.toNat_of_nonneg h2]
  unfold wrap64
  omega
def slLen : Value → Nat
  | .slice _ n _ => n
  | _ => 0
theorem split_at {R : List Rg} {f : Nat} {x : Rg} (hx : R[f]? = some x) : R = R.take f ++ x :: R.drop (f + 1) := by
  obtain ⟨h, e⟩ := List.getElem?_eq_some_iff.1 hx
  rw [← e, List.getElem_cons_drop]
  exact (List.take_append_drop f R).symm
theorem any_set {l2 S R : List Rg} {f : Nat} {x z : Rg} (h : ∀ y, y ∈ S ∨ y ∈ R ↔ y ∈ l2) (hx : R[f]? = some x) (hz : R[0]? = some z) : ∀ y, y ∈ (z :: x :: S) ∨ y ∈ (R.take f ++ R.drop (f + 1)) ↔ y ∈ l2 := by
  intro y
  have hm : y ∈ R ↔ y = x ∨ y ∈ R.take f ++ R.drop (f + 1) := by
    have e := split_at hx
    constructor
    · intro hy
      rw [e] at hy
      simp only [List.mem_append, List.mem_cons] at hy ⊢
      rcases hy with h | h | h
      · exact .inr (.inl h)
      · exact .inl h
      · exact .inr (.inr h)
    · rintro (rfl | hy)
      · exact List.mem_of_getElem? hx
      · rcases List.mem_append.1 hy with h | h
        · exact List.mem_of_mem_take h
        · exact List.mem_of_mem_drop h
  rw [← h y]
  constructor
  · rintro (hy | hy)
    · rcases List.mem_cons.1 hy with rfl | hy
      · exact .inr (List.mem_of_getElem? hz)
      · rcases List.mem_cons.1 hy with rfl | hy
        · exact .inr (List.mem_of_getElem? hx)
        · exact .inl hy
    · exact .inr (hm.2 (.inr hy))
  · rintro (hy | hy)
    · exact .inl (List.mem_cons_of_mem _ (List.mem_cons_of_mem _ hy))
    · rcases hm.1 hy with rfl | hy
      · exact .inl (List.mem_cons_of_mem _ List.mem_cons_self)
      · exact .inr hy
theorem best_len {S R l : List Rg} (h : BestL S R) (hs : ∀ x ∈ S, x ∈ l) : R.length ≤ l.length := nodup_le h.srt.nodup fun x hx => hs x (h.mem x hx).1
theorem rows_at {R : List Rg} {W : World} {b o : Nat} (h : ∀ i (h : i < R.length) j u, (rgCells R[i])[j]? = some u → W.cell? ⟨b, o + i * 7 + j, none⟩ = some u) {f : Nat} {x : Rg} (hx : R[f]? = some x) (j : Nat) (u : Value) (hj : (rgCells x)[j]? = some u) : W.cell? ⟨b, o + f * 7 + j, none⟩ = some u := by
  obtain ⟨h1, e⟩ := List.getElem?_eq_some_iff.1 hx
  exact h f h1 j u (by rw [e]; exact hj)
theorem rows_at0 {R : List Rg} {W : World} {b o : Nat} (h : ∀ i (h : i < R.length) j u, (rgCells R[i])[j]? = some u → W.cell? ⟨b, o + i * 7 + j, none⟩ = some u) {x : Rg} (hx : R[0]? = some x) (j : Nat) (u : Value) (hj : (rgCells x)[j]? = some u) : W.cell? ⟨b, o + j, none⟩ = some u := by
  have := rows_at h hx j u hj
  simpa using this
theorem rowsOf {G : Nat → Prop} {W : World} {b o cap : Nat} {R : List Rg} (h : LsE rgCells 7 G W (.slice (some ⟨b, o, none⟩) R.length cap) R) (hne : 0 < R.length) : b < W.heap.size ∧ ∀ i (h : i < R.length) j u, (rgCells R[i])[j]? = some u → W.cell? ⟨b, o + i * 7 + j, none⟩ = some u := by
  obtain ⟨a, c, e, _, _, h9⟩ := h
  injection e with e1 e2 e3
  subst e1
  obtain ⟨b2, o2, ea, _, hlt, hr⟩ := h9.resolve_left (by intro e; rw [e] at hne; simp at hne)
  cases ea
  exact ⟨hlt, hr⟩
theorem LsE.below_of {α : Type} {enc : α → List Value} {n : Nat} {w W : World} {v : Value} {D : List α} (h : LsE enc n (fun _ => True) w v D) (hb : Below w.heap.size w W) : LsE enc n (fun _ => True) W v D := h.below hb
/-- An empty nil slice behind a row changes nothing. -/
theorem app0 (g c : Nat) (w : World) : (Builtin.append_ #[30, 30] 30 #[.slice (some ⟨g, 0, none⟩) 0 0, .slice none 0 c]).run Try.prog w = .ok (.slice (some ⟨g, 0, none⟩) 0 0) w := by
  obtain ⟨irg, hirg, hz0rg, hz1rg, hz2rg⟩ := info_parts infoReg
  simp [Builtin.append_, run_underlying Try.underlying30, sizeOf, typeInfo, hirg, Builtin.lenOf, Builtin.firstCells, storeCells]
/-- Registers, others, what is left, the document's. -/
structure AnR (w : World) (rb : Nat) (F : Nat → Prop) (R0 : List Rg) (dv : Value) (xb : Nat) (Fx : Nat → Prop) (Rx : List Rg) (rv : Value) (R : List Rg) (W : World) : Prop where
  tt : RegOk F W rb R0
  xt : RegOk Fx W xb Rx
  xhi : ∀ j, Fx j → w.heap.size ≤ j
  ap : ∀ j, F j → ¬ Fx j
  re : LsE rgCells 7 (fun j => ¬ Fx j) W rv R
  sm : ∃ b o c, rv = .slice (some ⟨b, o, none⟩) R.length c
  doc : LsE rgCells 7 (fun j => ¬ Fx j) W dv R0
  bel : Below w.heap.size w W
section
variable {w W W' : World} {rb xb : Nat} {F Fx : Nat → Prop} {dv rv rv2 : Value} {R0 Rx Ry R R2 : List Rg}
theorem AnR.below (h : AnR w rb F R0 dv xb Fx Rx rv R W) (hb : Below W.heap.size W W') : AnR w rb F R0 dv xb Fx Rx rv R W' := ⟨h.tt.below hb, h.xt.below hb, h.xhi, h.ap, h.re.below hb, h.sm, h.doc.below hb, h.bel.trans (hb.mono h.bel.size)⟩
theorem AnR.did (h : AnR w rb F R0 dv xb Fx Rx rv R W) (hd : TakeP Fx W xb Ry W') : ∃ Fx', AnR w rb F R0 dv xb Fx' Ry rv R W' := by
  obtain ⟨F', ht, hsub, hnew, hto⟩ := hd
  refine ⟨F', h.tt.touch hto h.ap, ht, fun j hj => ?_, fun j hj hj2 => ?_, (h.re.lo.touch hto (fun k hk => hk.1)).mono fun k hk hF => (hnew k hF).elim hk.1 (fun h2 => by omega), h.sm, (h.doc.lo.touch hto (fun k hk => hk.1)).mono fun k hk hF => (hnew k hF).elim hk.1 (fun h2 => by omega), h.bel.trans (hto.below h.xhi h.bel.size)⟩
  · rcases hnew j hj with h1 | h1
    · exact h.xhi j h1
    · exact Nat.le_trans h.bel.size h1
  · rcases hnew j hj2 with h1 | h1
    · exact h.ap j hj h1
    · have := h.tt.lt j hj; omega
theorem AnR.rest (h : AnR w rb F R0 dv xb Fx Rx rv R W) (hB : BuR rgCells 7 25 W rv2 R2 W') (hl : R2.length ≤ 16384) : AnR w rb F R0 dv xb Fx Rx rv2 R2 W' :=
  ⟨h.tt.below hB.bel, h.xt.below hB.bel, h.xhi, h.ap, hB.lsE rgCells_len hl (fun j hj hF => by have := h.xt.lt j hF; omega), hB.sm.imp fun g ⟨c, e⟩ => ⟨0, c, e⟩, h.doc.below hB.bel, h.bel.trans (hB.bel.mono h.bel.size)⟩
theorem AnR.capR {b o cap : Nat} (h : AnR w rb F R0 dv xb Fx Rx (.slice (some ⟨b, o, none⟩) R.length cap) R W) : R.length ≤ cap := by
  obtain ⟨a9, c9, e9, hc9, _, h9⟩ := h.re
  injection e9 with e91 e92 e93
  rw [e93]
  exact hc9
end

set_option maxRecDepth 100000 in
set_option maxHeartbeats 16000000 in
theorem lwwAny_walk (v : Value) (l : List Rg) (v2 : Value) (od : List Int) (w : World) (h : IsRg w v l) (h2 : IsIn w v2 od) :
    Calls Try.prog 6 #[v, v2] w fun e w' => e = .returned (.bool true) ∧ Below w.heap.size w w' := by
  obtain ⟨irg, hirg, hz0rg, hz1rg, hz2rg⟩ := info_parts infoReg
  obtain ⟨a1, c1, e0⟩ := h.1.form
  subst e0
  obtain ⟨ao, co, e2, hoc, hol, hor⟩ := h2
  subst e2
  have hlen := h.1.len
  have HLs : Hid (IsRg w (.slice a1 l.length c1) l) := h
  have HOr : Hid (od = [] ∨ ∃ b o, ao = some ⟨b, o, none⟩ ∧ b < w.heap.size ∧ ∀ i (h : i < od.length), w.cell? ⟨b, o + i, none⟩ = some (.int .i64 od[i])) := hor
  clear h hor
  go_enter Try.func6, Try.ntmps6
  go_wp2_with fail
  refine (laid_any _ l _ HLs.out).mono ?_
  rintro e w1 ⟨rb, F, ad, cd, rfl, hM⟩
  have hBest : BestL (l.take 200) (laidL l) := laidT_best _
  obtain ⟨R0, eR⟩ : ∃ R, R = laidL l := ⟨_, rfl⟩
  rw [← eR] at hM hBest ⊢
  have HM : Hid (LdS w rb F (.slice ad R0.length cd) R0 R0 w1) := hM
  clear hM eR
  go_wp2_with fail
  refine (new_any _).mono ?_
  rintro e w2 ⟨xb, Fx0, rfl, hT, hFh, hb1⟩
  have HS2 : Hid (AnR w rb F R0 (.slice ad R0.length cd) xb Fx0 [] (.slice (some ⟨0, 0, none⟩) 0 0) [] w2) := ⟨HM.out.row.below hb1, hT, fun j hj => Nat.le_trans HM.out.bel.size (hFh j hj), fun j hj hj2 => by (have h1 := HM.out.row.lt j hj; have h2 := hFh j hj2; omega), LsE.nil _ _ _, ⟨_, _, _, rfl⟩, (HM.out.doc.lo.below hb1).mono fun k hk hF => (by have h1 := hk.2; have h2 := hFh k hF; omega), HM.out.bel.trans (hb1.mono HM.out.bel.size)⟩
  clear hT hFh hb1 HM
  by_cases hl : 200 < l.length
  · obtain ⟨l2, el2⟩ : ∃ X, X = l.take 200 := ⟨_, rfl⟩
    have h200 : (200 : Nat) = l2.length := by rw [el2]; simp; omega
    have HL2 : Hid (IsRg w (.slice a1 l2.length c1) l2) := (by rw [← h200, el2]; exact ⟨HLs.out.1.take rfl 200 (by omega), fun r hr => HLs.out.2 r (List.mem_of_mem_take hr)⟩)
    have HB0 : Hid (BestL l2 R0) := by rw [el2]; exact hBest
    have hk : (200 : Int) < (l.length : Int) := by omega
    obtain ⟨b0, o0, cap, ev, _, hbl, _⟩ := HLs.out.1.row7 (i := 0) (by omega)
    injection ev with ev1 ev2 ev3
    subst ev1
    have hc : l.length ≤ c1 := by (obtain ⟨_, _, e, hc, _⟩ := HLs.out.1; injection e with _ _ e3; omega)
    have HSm : Hid (∀ r ∈ l2, smR r) := HL2.out.2
    have hl2 : l2.length ≤ 200 := by omega
    clear ev2 ev3 el2 hBest hbl
    have hbe : Below w2.heap.size w2 (w2.alloc (.cells #[] 25)) := (Below.refl _ _).alloc (Nat.le_refl _) _
    have HB0n : Hid (BuR rgCells 7 25 w2 (.slice (some ⟨w2.heap.size, 0, none⟩) 0 0) [] (w2.alloc (.cells #[] 25))) := BuR.new w2
    have HC0 : Hid (∀ j u, (flatE rgCells l2)[j]? = some u → (w2.alloc (.cells #[] 25)).cell? ((⟨b0, o0, none⟩ : Addr).add j) = some u) := (by
      obtain ⟨a9, cap9, e1, _, _, hr⟩ := (HL2.out.1.below_of HS2.out.bel).below hbe
      injection e1 with e2 _ e3
      subst e2
      rcases hr with hr | ⟨b', o', e4, _, hlt, hr⟩
      · intro j u hj; rw [hr] at hj; simp [flatE] at hj
      · cases e4
        intro j u hj
        rw [Addr.add_lit]
        exact rows_flat rgCells_len l2 o0 hr j u hj)
    have hsz0 : w2.heap.size ≤ (w2.alloc (.cells #[] 25)).heap.size := hbe.size
    clear hbe
    go_wp2_with (at_builtin; refine wpList_append_own_at _ rfl _ _ 30 rfl w2.heap.size 25 irg (.agg #[.int .i64 0, .int .i64 0, .string ⟨#[]⟩, .int .i64 0, .int .i64 0, .string ⟨#[]⟩, .bool false]) 7 72 Try.underlying30 hirg hz0rg hz1rg hz2rg rfl (by decide) _ _ _ rfl HB0n.out.own ⟨b0, o0, none⟩ l2.length _ (flatE rgCells l2) rfl (flatE_length rgCells_len l2) HC0.out (flat_rg l2) (by unfold maxLen; simp only [List.length_nil]; omega) (by simp only [List.length_nil]; omega) hsz0 ?_; intro v3 w3 hown3 hgrow3 hnil3 hat3; have h0 := HB0n.out.pushes hown3 rfl hgrow3 hnil3; rw [List.nil_append] at h0; obtain ⟨g5, c5, e3⟩ := h0.sm; subst e3; have HB1 : Hid (BuR rgCells 7 25 w2 (.slice (some ⟨g5, 0, none⟩) l2.length c5) l2 w3) := h0; clear h0 hown3 hgrow3 hnil3 hat3 HB0n HC0 hsz0)
    have HS3 : Hid (AnR w rb F R0 (.slice ad R0.length cd) xb Fx0 [] (.slice (some ⟨g5, 0, none⟩) l2.length c5) l2 w3) := HS2.out.rest HB1.out (by omega)
    clear HS2 HB1
    clear HL2
    go_loopw [8, 9] (fun rv tv wr => ∃ (t : Nat) (R Rx Sx : List Rg) (Fx : Nat → Prop), tv = .int .i64 (t : Int) ∧ t + R.length = l2.length ∧ Hid (AnR w rb F R0 (.slice ad R0.length cd) xb Fx Rx rv R wr) ∧ Hid (BestL Sx Rx) ∧ Hid (∀ y, y ∈ Sx ∨ y ∈ R ↔ y ∈ l2)) (fun rv _ _ => slLen rv)
    case atStart => exact ⟨0, l2, [], [], Fx0, rfl, by omega, HS3, BestL.nil, fun y => by simp⟩
    case round =>
      clear HS3
      obtain ⟨t, R, Rx, Sx, Fx, rfl, htR, HS, HBe, HAp⟩ := hrel
      obtain ⟨b, o, cap, e5⟩ := HS.out.sm
      subst e5
      have HLx : Hid (Rx.length ≤ 200) := Nat.le_trans (best_len HBe.out fun y hy => (HAp.out y).1 (.inl hy)) hl2
      by_cases hR0 : 0 < R.length
      · have hR3 : R.length ≤ 4096 := by omega
        have r0 : (0 : Int) < (R.length : Int) := by omega
        by_cases hto : t < od.length
        · obtain ⟨b9, o9, rfl, hb9, hrow2⟩ := HOr.out.resolve_left (by intro e; subst e; simp at hto)
          have q9 := (HS.out.bel.cell (p := ⟨b9, o9 + t, none⟩) hb9).trans (hrow2 t hto)
          have t1 : (t : Int) < (od.length : Int) := by omega
          have t0 : (0 : Int) ≤ (t : Int) := by omega
          clear hrow2 hb9
          obtain ⟨f, hf, ef⟩ := from_lt od[t] hR0 hR3
          go_upto_region 14 with fail
          (try rw [ef])
          clear ef q9
          obtain ⟨x, hx⟩ : ∃ x, R[f]? = some x := ⟨_, List.getElem?_eq_getElem hf⟩
          have HXf : Hid (R[f]? = some x) := hx
          obtain ⟨z, hz⟩ : ∃ z, R[0]? = some z := ⟨_, List.getElem?_eq_getElem hR0⟩
          have HX0 : Hid (R[0]? = some z) := hz
          have HAn0 : Hid (∀ y, y ∈ (z :: x :: Sx) ∨ y ∈ (R.take f ++ R.drop (f + 1)) ↔ y ∈ l2) := any_set (f := f) HAp.out hx hz
          have HSx : Hid (x.nm.size ≤ 281474976710656 ∧ z.nm.size ≤ 281474976710656) := ⟨Nat.le_trans (HSm.out x ((HAp.out x).1 (.inr (List.mem_of_getElem? hx)))).1 (by decide), Nat.le_trans (HSm.out z ((HAp.out z).1 (.inr (List.mem_of_getElem? hz)))).1 (by decide)⟩
          have hcR := HS.out.capR
          have f1 : (f : Int) < (R.length : Int) := by omega
          have f0 : (0 : Int) ≤ (f : Int) := by omega
          have n5 : ((f : Int) + 1).toNat = f + 1 := by omega
          have n12 : IntKind.i64.wrap ((f : Int) + 1) = (f : Int) + 1 := by rw [IntKind.wrap_i64]; omega
          have z1 : (0 : Int) ≤ (f : Int) + 1 := by omega
          have z2 : (f : Int) + 1 ≤ (R.length : Int) := by omega
          have z3 : f ≤ cap := by omega
          have z4 : f + 1 ≤ cap := by omega
          clear hx hz
          have p0 : wr.cell? ⟨b, o + f * 7, none⟩ = some (.int .i64 x.nd.1) := rows_at (rowsOf HS.out.re hR0).2 HXf.out 0 _ rfl
          have p1 : wr.cell? ⟨b, o + f * 7 + 1, none⟩ = some (.int .i64 x.nd.2) := rows_at (rowsOf HS.out.re hR0).2 HXf.out 1 _ rfl
          have p2 : wr.cell? ⟨b, o + f * 7 + 2, none⟩ = some (.string x.nm) := rows_at (rowsOf HS.out.re hR0).2 HXf.out 2 _ rfl
          have p3 : wr.cell? ⟨b, o + f * 7 + 3, none⟩ = some (.int .i64 x.at_.1) := rows_at (rowsOf HS.out.re hR0).2 HXf.out 3 _ rfl
          have p4 : wr.cell? ⟨b, o + f * 7 + 4, none⟩ = some (.int .i64 x.at_.2) := rows_at (rowsOf HS.out.re hR0).2 HXf.out 4 _ rfl
          have p5 : wr.cell? ⟨b, o + f * 7 + 5, none⟩ = some (.string x.vl) := rows_at (rowsOf HS.out.re hR0).2 HXf.out 5 _ rfl
          have p6 : wr.cell? ⟨b, o + f * 7 + 6, none⟩ = some (.bool x.gn) := rows_at (rowsOf HS.out.re hR0).2 HXf.out 6 _ rfl
          go_wp2_with fail
          clear p0 p1 p2 p3 p4 p5 p6
          refine (put_any Fx xb Rx x _ HS.out.xt (by have := HLx.out; omega) HSx.out.1).mono ?_
          rintro e w5 ⟨rfl, hd⟩
          obtain ⟨Fy, hS2⟩ := HS.out.did hd
          replace HS : Hid (AnR w rb F R0 (.slice ad R0.length cd) xb Fy (putC Rx x) (.slice (some ⟨b, o, none⟩) R.length cap) R w5) := hS2
          clear hd hS2
          have HLy : Hid ((putC Rx x).length ≤ 202) := (by have h1 := putC_length Rx x; have := HLx.out; show _ ≤ _; omega)
          have p0 : w5.cell? ⟨b, o, none⟩ = some (.int .i64 z.nd.1) := rows_at0 (rowsOf HS.out.re hR0).2 HX0.out 0 _ rfl
          have p1 : w5.cell? ⟨b, o + 1, none⟩ = some (.int .i64 z.nd.2) := rows_at0 (rowsOf HS.out.re hR0).2 HX0.out 1 _ rfl
          have p2 : w5.cell? ⟨b, o + 2, none⟩ = some (.string z.nm) := rows_at0 (rowsOf HS.out.re hR0).2 HX0.out 2 _ rfl
          have p3 : w5.cell? ⟨b, o + 3, none⟩ = some (.int .i64 z.at_.1) := rows_at0 (rowsOf HS.out.re hR0).2 HX0.out 3 _ rfl
          have p4 : w5.cell? ⟨b, o + 4, none⟩ = some (.int .i64 z.at_.2) := rows_at0 (rowsOf HS.out.re hR0).2 HX0.out 4 _ rfl
          have p5 : w5.cell? ⟨b, o + 5, none⟩ = some (.string z.vl) := rows_at0 (rowsOf HS.out.re hR0).2 HX0.out 5 _ rfl
          have p6 : w5.cell? ⟨b, o + 6, none⟩ = some (.bool z.gn) := rows_at0 (rowsOf HS.out.re hR0).2 HX0.out 6 _ rfl
          go_wp2_with fail
          clear p0 p1 p2 p3 p4 p5 p6
          refine (put_any Fy xb (putC Rx x) z _ HS.out.xt (by have := HLy.out; omega) HSx.out.2).mono ?_
          rintro e w6 ⟨rfl, hd⟩
          obtain ⟨Fz, hS2⟩ := HS.out.did hd
          replace HS : Hid (AnR w rb F R0 (.slice ad R0.length cd) xb Fz (putC (putC Rx x) z) (.slice (some ⟨b, o, none⟩) R.length cap) R w6) := hS2
          clear hd hS2
          have HBz : Hid (BestL (z :: x :: Sx) (putC (putC Rx x) z)) := (HBe.out.put x).put z
          have hbe : Below w6.heap.size w6 (w6.alloc (.cells #[] 25)) := (Below.refl _ _).alloc (Nat.le_refl _) _
          have HB0 : Hid (BuR rgCells 7 25 w6 (.slice (some ⟨w6.heap.size, 0, none⟩) 0 0) [] (w6.alloc (.cells #[] 25))) := BuR.new w6
          obtain ⟨hblt, hpl⟩ : b < w6.heap.size ∧ (∀ i (h : i < R.length) j u, (rgCells R[i])[j]? = some u → w6.cell? ⟨b, o + i * 7 + j, none⟩ = some u) := rowsOf HS.out.re hR0
          have HC1 : Hid (∀ j u, (flatE rgCells (R.take f))[j]? = some u → (w6.alloc (.cells #[] 25)).cell? ((⟨b, o, none⟩ : Addr).add j) = some u) := fun j u hj => (by rw [Addr.add_lit]; exact (hbe.cell (p := ⟨b, o + j, none⟩) hblt).trans (rows_flat rgCells_len R o hpl j u (flat_pre rgCells_len hj)))
          have HC2 : Hid (∀ j u, (flatE rgCells (R.drop (f + 1)))[j]? = some u → w6.cell? ⟨b, o + (f + 1) * 7 + j, none⟩ = some u) := fun j u hj => (by rw [Nat.add_assoc]; exact rows_flat rgCells_len R o hpl _ u (flat_suf rgCells_len (by omega) hj))
          have HT1 : Hid ((R.take f).length = f) := by (show _ = _; rw [List.length_take]; omega)
          have HT2 : Hid ((R.drop (f + 1)).length = R.length - (f + 1)) := by (show _ = _; rw [List.length_drop])
          have HBl : Hid (b < w6.heap.size) := hblt
          have hsz1 : w6.heap.size ≤ (w6.alloc (.cells #[] 25)).heap.size := hbe.size
          obtain ⟨P, eP⟩ : ∃ P, P = R.take f := ⟨_, rfl⟩
          obtain ⟨Q, eQ⟩ : ∃ Q, Q = R.drop (f + 1) := ⟨_, rfl⟩
          rw [← eP] at HC1 HT1
          rw [← eQ] at HC2 HT2
          rw [← eP, ← eQ] at HAn0
          clear eP eQ
          obtain ⟨R2, eR2⟩ : ∃ R2, R2 = P ++ Q := ⟨_, rfl⟩
          have HR2 : Hid (P ++ Q = R2) := eR2.symm
          rw [← eR2] at HAn0
          have HRn : Hid (R2.length + 1 = R.length) := by (show _ = _; have h1 := HT1.out; have h2 := HT2.out; rw [eR2, List.length_append]; omega)
          clear eR2
          obtain ⟨Ad, hAd, HA2⟩ : ∃ A : Addr, (if cap = f + 1 then some (⟨b, o, none⟩ : Addr) else some ⟨b, o + (f + 1) * 7, none⟩) = some A ∧ Hid (∀ V : World, Below w6.heap.size w6 V → ∀ j u, (flatE rgCells Q)[j]? = some u → V.cell? (A.add j) = some u) := src2 rgCells_len HC2.out HBl.out hcR HT2.out
          clear hbe hpl hblt HC2
          go_wp2_with (first
            | (at_builtin; refine wpList_append_own_at _ rfl _ _ 30 rfl w6.heap.size 25 irg (.agg #[.int .i64 0, .int .i64 0, .string ⟨#[]⟩, .int .i64 0, .int .i64 0, .string ⟨#[]⟩, .bool false]) 7 72 Try.underlying30 hirg hz0rg hz1rg hz2rg rfl (by decide) _ _ _ rfl HB0.out.own ⟨b, o, none⟩ _ _ (flatE rgCells P) rfl (by have h8 := flatE_length rgCells_len P; have h9 := HT1.out; rw [h8, h9]; try (first | rfl | (congr 1; omega))) HC1.out (flat_rg _) (by (try simp only [List.length_nil]); have := HT1.out; have := HT2.out; unfold maxLen; omega) (by (try simp only [List.length_nil]); have := HT1.out; have := HT2.out; omega) hsz1 ?_; intro v1 w8 hown3 hgrow3 hnil3 hat3; have h0 := HB0.out.pushes (E := P) hown3 (by have := HT1.out; omega) hgrow3 hnil3; rw [List.nil_append] at h0; obtain ⟨g1, c1, e3⟩ := h0.sm; subst e3; have HB1 : Hid (BuR rgCells 7 25 w6 (.slice (some ⟨g1, 0, none⟩) P.length c1) P w8) := h0; clear h0 hown3 hgrow3 hnil3 hat3; have HC3 : Hid (∀ j u, (flatE rgCells Q)[j]? = some u → w8.cell? (Ad.add j) = some u) := HA2.out w8 HB1.out.bel; have hsz2 : w6.heap.size ≤ w8.heap.size := HB1.out.bel.size; clear HB0 HC1 hsz1)
            | (at_builtin; refine wpList_append_own_at _ rfl _ _ 30 rfl w6.heap.size 25 irg (.agg #[.int .i64 0, .int .i64 0, .string ⟨#[]⟩, .int .i64 0, .int .i64 0, .string ⟨#[]⟩, .bool false]) 7 72 Try.underlying30 hirg hz0rg hz1rg hz2rg rfl (by decide) _ _ _ rfl HB1.out.own Ad _ _ (flatE rgCells Q) rfl (by have h8 := flatE_length rgCells_len Q; have h9 := HT2.out; rw [h8, h9]; try (first | rfl | (congr 1; omega))) HC3.out (flat_rg _) (by (try simp only [List.length_nil]); have := HT1.out; have := HT2.out; unfold maxLen; omega) (by (try simp only [List.length_nil]); have := HT1.out; have := HT2.out; omega) hsz2 ?_; intro v2 w9 hown3 hgrow3 hnil3 hat3; have h0 := HB1.out.pushes (E := Q) hown3 (by have := HT2.out; omega) hgrow3 hnil3; rw [HR2.out] at h0; obtain ⟨g2, c2, e3⟩ := h0.sm; subst e3; have HB2 : Hid (BuR rgCells 7 25 w6 (.slice (some ⟨g2, 0, none⟩) R2.length c2) R2 w9) := h0; clear h0 hown3 hgrow3 hnil3 hat3; clear HB1 HC3 hsz2))
          have HSn : Hid (AnR w rb F R0 (.slice ad R0.length cd) xb Fz (putC (putC Rx x) z) (.slice (some ⟨g2, 0, none⟩) R2.length c2) R2 w9) := HS.out.rest HB2.out (by have := HRn.out; omega)
          have hRn := HRn.out
          go_roundw
          case rel => exact ⟨t + 1, R2, _, (z :: x :: Sx), Fz, by go_num, by omega, HSn, HBz, HAn0⟩
          case measure => simp only [slLen]; omega
        · have t1 : ¬ (t : Int) < (od.length : Int) := by omega
          go_upto_region 14 with fail
          obtain ⟨x, hx⟩ : ∃ x, R[0]? = some x := ⟨_, List.getElem?_eq_getElem hR0⟩
          have HXf : Hid (R[0]? = some x) := hx
          obtain ⟨z, hz⟩ : ∃ z, R[0]? = some z := ⟨_, List.getElem?_eq_getElem hR0⟩
          have HX0 : Hid (R[0]? = some z) := hz
          have HAn0 : Hid (∀ y, y ∈ (z :: x :: Sx) ∨ y ∈ (R.take 0 ++ R.drop 1) ↔ y ∈ l2) := any_set (f := 0) HAp.out hx hz
          have HSx : Hid (x.nm.size ≤ 281474976710656 ∧ z.nm.size ≤ 281474976710656) := ⟨Nat.le_trans (HSm.out x ((HAp.out x).1 (.inr (List.mem_of_getElem? hx)))).1 (by decide), Nat.le_trans (HSm.out z ((HAp.out z).1 (.inr (List.mem_of_getElem? hz)))).1 (by decide)⟩
          have hcR := HS.out.capR
          have z2 : (1 : Int) ≤ (R.length : Int) := by omega
          have z4 : 1 ≤ cap := by omega
          have z5 : 1 ≤ R.length := by omega
          clear hx hz
          have p0 : wr.cell? ⟨b, o, none⟩ = some (.int .i64 x.nd.1) := rows_at0 (rowsOf HS.out.re hR0).2 HXf.out 0 _ rfl
          have p1 : wr.cell? ⟨b, o + 1, none⟩ = some (.int .i64 x.nd.2) := rows_at0 (rowsOf HS.out.re hR0).2 HXf.out 1 _ rfl
          have p2 : wr.cell? ⟨b, o + 2, none⟩ = some (.string x.nm) := rows_at0 (rowsOf HS.out.re hR0).2 HXf.out 2 _ rfl
          have p3 : wr.cell? ⟨b, o + 3, none⟩ = some (.int .i64 x.at_.1) := rows_at0 (rowsOf HS.out.re hR0).2 HXf.out 3 _ rfl
          have p4 : wr.cell? ⟨b, o + 4, none⟩ = some (.int .i64 x.at_.2) := rows_at0 (rowsOf HS.out.re hR0).2 HXf.out 4 _ rfl
          have p5 : wr.cell? ⟨b, o + 5, none⟩ = some (.string x.vl) := rows_at0 (rowsOf HS.out.re hR0).2 HXf.out 5 _ rfl
          have p6 : wr.cell? ⟨b, o + 6, none⟩ = some (.bool x.gn) := rows_at0 (rowsOf HS.out.re hR0).2 HXf.out 6 _ rfl
          go_wp2_with fail
          clear p0 p1 p2 p3 p4 p5 p6
          refine (put_any Fx xb Rx x _ HS.out.xt (by have := HLx.out; omega) HSx.out.1).mono ?_
          rintro e w5 ⟨rfl, hd⟩
          obtain ⟨Fy, hS2⟩ := HS.out.did hd
          replace HS : Hid (AnR w rb F R0 (.slice ad R0.length cd) xb Fy (putC Rx x) (.slice (some ⟨b, o, none⟩) R.length cap) R w5) := hS2
          clear hd hS2
          have HLy : Hid ((putC Rx x).length ≤ 202) := (by have h1 := putC_length Rx x; have := HLx.out; show _ ≤ _; omega)
          have p0 : w5.cell? ⟨b, o, none⟩ = some (.int .i64 z.nd.1) := rows_at0 (rowsOf HS.out.re hR0).2 HX0.out 0 _ rfl
          have p1 : w5.cell? ⟨b, o + 1, none⟩ = some (.int .i64 z.nd.2) := rows_at0 (rowsOf HS.out.re hR0).2 HX0.out 1 _ rfl
          have p2 : w5.cell? ⟨b, o + 2, none⟩ = some (.string z.nm) := rows_at0 (rowsOf HS.out.re hR0).2 HX0.out 2 _ rfl
          have p3 : w5.cell? ⟨b, o + 3, none⟩ = some (.int .i64 z.at_.1) := rows_at0 (rowsOf HS.out.re hR0).2 HX0.out 3 _ rfl
          have p4 : w5.cell? ⟨b, o + 4, none⟩ = some (.int .i64 z.at_.2) := rows_at0 (rowsOf HS.out.re hR0).2 HX0.out 4 _ rfl
          have p5 : w5.cell? ⟨b, o + 5, none⟩ = some (.string z.vl) := rows_at0 (rowsOf HS.out.re hR0).2 HX0.out 5 _ rfl
          have p6 : w5.cell? ⟨b, o + 6, none⟩ = some (.bool z.gn) := rows_at0 (rowsOf HS.out.re hR0).2 HX0.out 6 _ rfl
          go_wp2_with fail
          clear p0 p1 p2 p3 p4 p5 p6
          refine (put_any Fy xb (putC Rx x) z _ HS.out.xt (by have := HLy.out; omega) HSx.out.2).mono ?_
          rintro e w6 ⟨rfl, hd⟩
          obtain ⟨Fz, hS2⟩ := HS.out.did hd
          replace HS : Hid (AnR w rb F R0 (.slice ad R0.length cd) xb Fz (putC (putC Rx x) z) (.slice (some ⟨b, o, none⟩) R.length cap) R w6) := hS2
          clear hd hS2
          have HBz : Hid (BestL (z :: x :: Sx) (putC (putC Rx x) z)) := (HBe.out.put x).put z
          have hbe : Below w6.heap.size w6 (w6.alloc (.cells #[] 25)) := (Below.refl _ _).alloc (Nat.le_refl _) _
          have HB0 : Hid (BuR rgCells 7 25 w6 (.slice (some ⟨w6.heap.size, 0, none⟩) 0 0) [] (w6.alloc (.cells #[] 25))) := BuR.new w6
          obtain ⟨hblt, hpl⟩ : b < w6.heap.size ∧ (∀ i (h : i < R.length) j u, (rgCells R[i])[j]? = some u → w6.cell? ⟨b, o + i * 7 + j, none⟩ = some u) := rowsOf HS.out.re hR0
          have HC1 : Hid (∀ j u, (flatE rgCells (R.take 0))[j]? = some u → (w6.alloc (.cells #[] 25)).cell? ((⟨b, o, none⟩ : Addr).add j) = some u) := fun j u hj => (by rw [Addr.add_lit]; exact (hbe.cell (p := ⟨b, o + j, none⟩) hblt).trans (rows_flat rgCells_len R o hpl j u (flat_pre rgCells_len hj)))
          have HC2 : Hid (∀ j u, (flatE rgCells (R.drop 1))[j]? = some u → w6.cell? ⟨b, o + 7 + j, none⟩ = some u) := fun j u hj => (by rw [Nat.add_assoc]; exact rows_flat rgCells_len R o hpl _ u (flat_suf (f := 1) rgCells_len (by omega) hj))
          have HT1 : Hid ((R.take 0).length = 0) := by (show _ = _; rw [List.length_take]; omega)
          have HT2 : Hid ((R.drop 1).length = R.length - 1) := by (show _ = _; rw [List.length_drop])
          have HBl : Hid (b < w6.heap.size) := hblt
          have hsz1 : w6.heap.size ≤ (w6.alloc (.cells #[] 25)).heap.size := hbe.size
          obtain ⟨P, eP⟩ : ∃ P, P = R.take 0 := ⟨_, rfl⟩
          obtain ⟨Q, eQ⟩ : ∃ Q, Q = R.drop 1 := ⟨_, rfl⟩
          rw [← eP] at HC1 HT1
          rw [← eQ] at HC2 HT2
          rw [← eP, ← eQ] at HAn0
          clear eP eQ
          obtain ⟨R2, eR2⟩ : ∃ R2, R2 = P ++ Q := ⟨_, rfl⟩
          have HR2 : Hid (P ++ Q = R2) := eR2.symm
          rw [← eR2] at HAn0
          have HRn : Hid (R2.length + 1 = R.length) := by (show _ = _; have h1 := HT1.out; have h2 := HT2.out; rw [eR2, List.length_append]; omega)
          clear eR2
          obtain ⟨Ad, hAd, HA2⟩ : ∃ A : Addr, (if cap = 1 then some (⟨b, o, none⟩ : Addr) else some ⟨b, o + 7, none⟩) = some A ∧ Hid (∀ V : World, Below w6.heap.size w6 V → ∀ j u, (flatE rgCells Q)[j]? = some u → V.cell? (A.add j) = some u) := src2 (f := 0) rgCells_len HC2.out HBl.out hcR HT2.out
          clear hbe hpl hblt HC2
          go_wp2_with (first
            | (at_builtin; refine wpList_append_own_at _ rfl _ _ 30 rfl w6.heap.size 25 irg (.agg #[.int .i64 0, .int .i64 0, .string ⟨#[]⟩, .int .i64 0, .int .i64 0, .string ⟨#[]⟩, .bool false]) 7 72 Try.underlying30 hirg hz0rg hz1rg hz2rg rfl (by decide) _ _ _ rfl HB0.out.own ⟨b, o, none⟩ _ _ (flatE rgCells P) rfl (by have h8 := flatE_length rgCells_len P; have h9 := HT1.out; rw [h8, h9]; try (first | rfl | (congr 1; omega))) HC1.out (flat_rg _) (by (try simp only [List.length_nil]); have := HT1.out; have := HT2.out; unfold maxLen; omega) (by (try simp only [List.length_nil]); have := HT1.out; have := HT2.out; omega) hsz1 ?_; intro v1 w8 hown3 hgrow3 hnil3 hat3; have h0 := HB0.out.pushes (E := P) hown3 (by have := HT1.out; omega) hgrow3 hnil3; rw [List.nil_append] at h0; obtain ⟨g1, c1, e3⟩ := h0.sm; subst e3; have HB1 : Hid (BuR rgCells 7 25 w6 (.slice (some ⟨g1, 0, none⟩) P.length c1) P w8) := h0; clear h0 hown3 hgrow3 hnil3 hat3; have HC3 : Hid (∀ j u, (flatE rgCells Q)[j]? = some u → w8.cell? (Ad.add j) = some u) := HA2.out w8 HB1.out.bel; have hsz2 : w6.heap.size ≤ w8.heap.size := HB1.out.bel.size; clear HB0 HC1 hsz1)
            | (at_builtin; refine wpList_append_own_at _ rfl _ _ 30 rfl w6.heap.size 25 irg (.agg #[.int .i64 0, .int .i64 0, .string ⟨#[]⟩, .int .i64 0, .int .i64 0, .string ⟨#[]⟩, .bool false]) 7 72 Try.underlying30 hirg hz0rg hz1rg hz2rg rfl (by decide) _ _ _ rfl HB1.out.own Ad _ _ (flatE rgCells Q) rfl (by have h8 := flatE_length rgCells_len Q; have h9 := HT2.out; rw [h8, h9]; try (first | rfl | (congr 1; omega))) HC3.out (flat_rg _) (by (try simp only [List.length_nil]); have := HT1.out; have := HT2.out; unfold maxLen; omega) (by (try simp only [List.length_nil]); have := HT1.out; have := HT2.out; omega) hsz2 ?_; intro v2 w9 hown3 hgrow3 hnil3 hat3; have h0 := HB1.out.pushes (E := Q) hown3 (by have := HT2.out; omega) hgrow3 hnil3; rw [HR2.out] at h0; obtain ⟨g2, c2, e3⟩ := h0.sm; subst e3; have HB2 : Hid (BuR rgCells 7 25 w6 (.slice (some ⟨g2, 0, none⟩) R2.length c2) R2 w9) := h0; clear h0 hown3 hgrow3 hnil3 hat3; clear HB1 HC3 hsz2))
          have HSn : Hid (AnR w rb F R0 (.slice ad R0.length cd) xb Fz (putC (putC Rx x) z) (.slice (some ⟨g2, 0, none⟩) R2.length c2) R2 w9) := HS.out.rest HB2.out (by have := HRn.out; omega)
          have hRn := HRn.out
          go_roundw
          case rel => exact ⟨t + 1, R2, _, (z :: x :: Sx), Fz, by go_num, by omega, HSn, HBz, HAn0⟩
          case measure => simp only [slLen]; omega
      · have hRn : R = [] := by (cases R with | nil => rfl | cons x R => simp at hR0)
        subst hRn
        have HE : Hid (Rx = R0) := HBe.out.uniq (HB0.out.set fun y => (by have := HAp.out y; simp at this; exact this.symm))
        clear HAp HBe
        obtain rfl : Rx = R0 := HE.out
        clear HE
        go_wp2_with fail
        refine (all_v F _ Rx _ HS.out.tt.rv).mono ?_
        rintro e w5 ⟨u, rfl, ho, hb⟩
        replace HS := hide8 (HS.out.below hb)
        obtain ⟨oa, oc, eo⟩ := ho.form
        subst eo
        have HO1 : Hid (LsE rgCells 7 (fun _ => True) w5 (.slice oa Rx.length oc) Rx) := ho.lsE rgCells_len (by have := HLx.out; omega) (fun _ _ => trivial)
        clear ho hb
        go_wp2_with fail
        refine (all_v Fx _ Rx _ HS.out.xt.rv).mono ?_
        rintro e w6 ⟨u, rfl, ho, hb⟩
        replace HS := hide8 (HS.out.below hb)
        replace HO1 : Hid (LsE rgCells 7 (fun _ => True) w6 (.slice oa Rx.length oc) Rx) := HO1.out.below hb
        obtain ⟨oa2, oc2, eo⟩ := ho.form
        subst eo
        have HO2 : Hid (LsE rgCells 7 (fun _ => True) w6 (.slice oa2 Rx.length oc2) Rx) := ho.lsE rgCells_len (by have := HLx.out; omega) (fun _ _ => trivial)
        clear ho hb
        go_wp2_with fail
        refine (refSame_any _ _ _ _ Rx Rx _ HO1.out HO2.out).mono ?_
        rintro e w7 ⟨rfl, hb⟩
        replace HS := hide8 (HS.out.below hb)
        clear hb HO1 HO2
        rw [decide_eq_true rfl]
        go_wp2_with fail
        refine (all_v Fx _ Rx _ HS.out.xt.rv).mono ?_
        rintro e w8 ⟨u, rfl, ho, hb⟩
        replace HS := hide8 (HS.out.below hb)
        obtain ⟨oa3, oc3, eo⟩ := ho.form
        subst eo
        have HO3 : Hid (LsE rgCells 7 (fun _ => True) w8 (.slice oa3 Rx.length oc3) Rx) := ho.lsE rgCells_len (by have := HLx.out; omega) (fun _ _ => trivial)
        clear ho hb
        go_wp2_with fail
        refine (refSame_any _ _ _ _ Rx Rx _ HO3.out HS.out.doc).mono ?_
        rintro e w9 ⟨rfl, hb⟩
        replace HS := hide8 (HS.out.below hb)
        clear hb HO3
        rw [decide_eq_true rfl]
        go_wp2_with fail
        refine (awake_any _).mono ?_
        rintro e w10 ⟨rfl, hb⟩
        have HB : Hid (Below w.heap.size w w10) := HS.out.bel.trans (hb.mono HS.out.bel.size)
        clear hb HS
        go_wp2
        go_ret
        exact ⟨rfl, HB.out⟩
  · have HB00 : BestL l R0 := by rw [List.take_of_length_le (by omega)] at hBest; exact hBest
    have hk : ¬ (200 : Int) < (l.length : Int) := by omega
    obtain ⟨l2, el2⟩ : ∃ X, X = l := ⟨_, rfl⟩
    rw [← el2] at HLs HB00 hk hlen hl
    rw [← el2]
    have HB0 : Hid (BestL l2 R0) := HB00
    have HL2 : Hid (IsRg w (.slice a1 l2.length c1) l2) := HLs.out
    have HSm : Hid (∀ r ∈ l2, smR r) := HL2.out.2
    have hl2 : l2.length ≤ 200 := by omega
    clear el2 HB00 HLs hBest
    by_cases hl0 : 0 < l2.length
    · obtain ⟨b0, o0, cap, ev, _, hbl, _⟩ := HL2.out.1.row7 (i := 0) hl0
      injection ev with ev1 ev2 ev3
      subst ev1
      clear ev2 ev3 hbl
      have hbe : Below w2.heap.size w2 (w2.alloc (.cells #[] 25)) := (Below.refl _ _).alloc (Nat.le_refl _) _
      have HB0n : Hid (BuR rgCells 7 25 w2 (.slice (some ⟨w2.heap.size, 0, none⟩) 0 0) [] (w2.alloc (.cells #[] 25))) := BuR.new w2
      have HC0 : Hid (∀ j u, (flatE rgCells l2)[j]? = some u → (w2.alloc (.cells #[] 25)).cell? ((⟨b0, o0, none⟩ : Addr).add j) = some u) := (by
        obtain ⟨a9, cap9, e1, _, _, hr⟩ := (HL2.out.1.below_of HS2.out.bel).below hbe
        injection e1 with e2 _ e3
        subst e2
        rcases hr with hr | ⟨b', o', e4, _, hlt, hr⟩
        · intro j u hj; rw [hr] at hj; simp [flatE] at hj
        · cases e4
          intro j u hj
          rw [Addr.add_lit]
          exact rows_flat rgCells_len l2 o0 hr j u hj)
      have hsz0 : w2.heap.size ≤ (w2.alloc (.cells #[] 25)).heap.size := hbe.size
      clear hbe
      go_wp2_with (at_builtin; refine wpList_append_own_at _ rfl _ _ 30 rfl w2.heap.size 25 irg (.agg #[.int .i64 0, .int .i64 0, .string ⟨#[]⟩, .int .i64 0, .int .i64 0, .string ⟨#[]⟩, .bool false]) 7 72 Try.underlying30 hirg hz0rg hz1rg hz2rg rfl (by decide) _ _ _ rfl HB0n.out.own ⟨b0, o0, none⟩ l2.length _ (flatE rgCells l2) rfl (flatE_length rgCells_len l2) HC0.out (flat_rg l2) (by unfold maxLen; simp only [List.length_nil]; omega) (by simp only [List.length_nil]; omega) hsz0 ?_; intro v3 w3 hown3 hgrow3 hnil3 hat3; have h0 := HB0n.out.pushes hown3 rfl hgrow3 hnil3; rw [List.nil_append] at h0; obtain ⟨g5, c5, e3⟩ := h0.sm; subst e3; have HB1 : Hid (BuR rgCells 7 25 w2 (.slice (some ⟨g5, 0, none⟩) l2.length c5) l2 w3) := h0; clear h0 hown3 hgrow3 hnil3 hat3 HB0n HC0 hsz0)
      have HS3 : Hid (AnR w rb F R0 (.slice ad R0.length cd) xb Fx0 [] (.slice (some ⟨g5, 0, none⟩) l2.length c5) l2 w3) := HS2.out.rest HB1.out (by omega)
      clear HS2 HB1
      clear HL2
      go_loopw [8, 9] (fun rv tv wr => ∃ (t : Nat) (R Rx Sx : List Rg) (Fx : Nat → Prop), tv = .int .i64 (t : Int) ∧ t + R.length = l2.length ∧ Hid (AnR w rb F R0 (.slice ad R0.length cd) xb Fx Rx rv R wr) ∧ Hid (BestL Sx Rx) ∧ Hid (∀ y, y ∈ Sx ∨ y ∈ R ↔ y ∈ l2)) (fun rv _ _ => slLen rv)
      case atStart => exact ⟨0, l2, [], [], Fx0, rfl, by omega, HS3, BestL.nil, fun y => by simp⟩
      case round =>
        clear HS3
        obtain ⟨t, R, Rx, Sx, Fx, rfl, htR, HS, HBe, HAp⟩ := hrel
        obtain ⟨b, o, cap, e5⟩ := HS.out.sm
        subst e5
        have HLx : Hid (Rx.length ≤ 200) := Nat.le_trans (best_len HBe.out fun y hy => (HAp.out y).1 (.inl hy)) hl2
        by_cases hR0 : 0 < R.length
        · have hR3 : R.length ≤ 4096 := by omega
          have r0 : (0 : Int) < (R.length : Int) := by omega
          by_cases hto : t < od.length
          · obtain ⟨b9, o9, rfl, hb9, hrow2⟩ := HOr.out.resolve_left (by intro e; subst e; simp at hto)
            have q9 := (HS.out.bel.cell (p := ⟨b9, o9 + t, none⟩) hb9).trans (hrow2 t hto)
            have t1 : (t : Int) < (od.length : Int) := by omega
            have t0 : (0 : Int) ≤ (t : Int) := by omega
            clear hrow2 hb9
            obtain ⟨f, hf, ef⟩ := from_lt od[t] hR0 hR3
            go_upto_region 14 with fail
            (try rw [ef])
            clear ef q9
            obtain ⟨x, hx⟩ : ∃ x, R[f]? = some x := ⟨_, List.getElem?_eq_getElem hf⟩
            have HXf : Hid (R[f]? = some x) := hx
            obtain ⟨z, hz⟩ : ∃ z, R[0]? = some z := ⟨_, List.getElem?_eq_getElem hR0⟩
            have HX0 : Hid (R[0]? = some z) := hz
            have HAn0 : Hid (∀ y, y ∈ (z :: x :: Sx) ∨ y ∈ (R.take f ++ R.drop (f + 1)) ↔ y ∈ l2) := any_set (f := f) HAp.out hx hz
            have HSx : Hid (x.nm.size ≤ 281474976710656 ∧ z.nm.size ≤ 281474976710656) := ⟨Nat.le_trans (HSm.out x ((HAp.out x).1 (.inr (List.mem_of_getElem? hx)))).1 (by decide), Nat.le_trans (HSm.out z ((HAp.out z).1 (.inr (List.mem_of_getElem? hz)))).1 (by decide)⟩
            have hcR := HS.out.capR
            have f1 : (f : Int) < (R.length : Int) := by omega
            have f0 : (0 : Int) ≤ (f : Int) := by omega
            have n5 : ((f : Int) + 1).toNat = f + 1 := by omega
            have n12 : IntKind.i64.wrap ((f : Int) + 1) = (f : Int) + 1 := by rw [IntKind.wrap_i64]; omega
            have z1 : (0 : Int) ≤ (f : Int) + 1 := by omega
            have z2 : (f : Int) + 1 ≤ (R.length : Int) := by omega
            have z3 : f ≤ cap := by omega
            have z4 : f + 1 ≤ cap := by omega
            clear hx hz
            have p0 : wr.cell? ⟨b, o + f * 7, none⟩ = some (.int .i64 x.nd.1) := rows_at (rowsOf HS.out.re hR0).2 HXf.out 0 _ rfl
            have p1 : wr.cell? ⟨b, o + f * 7 + 1, none⟩ = some (.int .i64 x.nd.2) := rows_at (rowsOf HS.out.re hR0).2 HXf.out 1 _ rfl
            have p2 : wr.cell? ⟨b, o + f * 7 + 2, none⟩ = some (.string x.nm) := rows_at (rowsOf HS.out.re hR0).2 HXf.out 2 _ rfl
            have p3 : wr.cell? ⟨b, o + f * 7 + 3, none⟩ = some (.int .i64 x.at_.1) := rows_at (rowsOf HS.out.re hR0).2 HXf.out 3 _ rfl
            have p4 : wr.cell? ⟨b, o + f * 7 + 4, none⟩ = some (.int .i64 x.at_.2) := rows_at (rowsOf HS.out.re hR0).2 HXf.out 4 _ rfl
            have p5 : wr.cell? ⟨b, o + f * 7 + 5, none⟩ = some (.string x.vl) := rows_at (rowsOf HS.out.re hR0).2 HXf.out 5 _ rfl
            have p6 : wr.cell? ⟨b, o + f * 7 + 6, none⟩ = some (.bool x.gn) := rows_at (rowsOf HS.out.re hR0).2 HXf.out 6 _ rfl
            go_wp2_with fail
            clear p0 p1 p2 p3 p4 p5 p6
            refine (put_any Fx xb Rx x _ HS.out.xt (by have := HLx.out; omega) HSx.out.1).mono ?_
            rintro e w5 ⟨rfl, hd⟩
            obtain ⟨Fy, hS2⟩ := HS.out.did hd
            replace HS : Hid (AnR w rb F R0 (.slice ad R0.length cd) xb Fy (putC Rx x) (.slice (some ⟨b, o, none⟩) R.length cap) R w5) := hS2
            clear hd hS2
            have HLy : Hid ((putC Rx x).length ≤ 202) := (by have h1 := putC_length Rx x; have := HLx.out; show _ ≤ _; omega)
            have p0 : w5.cell? ⟨b, o, none⟩ = some (.int .i64 z.nd.1) := rows_at0 (rowsOf HS.out.re hR0).2 HX0.out 0 _ rfl
            have p1 : w5.cell? ⟨b, o + 1, none⟩ = some (.int .i64 z.nd.2) := rows_at0 (rowsOf HS.out.re hR0).2 HX0.out 1 _ rfl
            have p2 : w5.cell? ⟨b, o + 2, none⟩ = some (.string z.nm) := rows_at0 (rowsOf HS.out.re hR0).2 HX0.out 2 _ rfl
            have p3 : w5.cell? ⟨b, o + 3, none⟩ = some (.int .i64 z.at_.1) := rows_at0 (rowsOf HS.out.re hR0).2 HX0.out 3 _ rfl
            have p4 : w5.cell? ⟨b, o + 4, none⟩ = some (.int .i64 z.at_.2) := rows_at0 (rowsOf HS.out.re hR0).2 HX0.out 4 _ rfl
            have p5 : w5.cell? ⟨b, o + 5, none⟩ = some (.string z.vl) := rows_at0 (rowsOf HS.out.re hR0).2 HX0.out 5 _ rfl
            have p6 : w5.cell? ⟨b, o + 6, none⟩ = some (.bool z.gn) := rows_at0 (rowsOf HS.out.re hR0).2 HX0.out 6 _ rfl
            go_wp2_with fail
            clear p0 p1 p2 p3 p4 p5 p6
            refine (put_any Fy xb (putC Rx x) z _ HS.out.xt (by have := HLy.out; omega) HSx.out.2).mono ?_
            rintro e w6 ⟨rfl, hd⟩
            obtain ⟨Fz, hS2⟩ := HS.out.did hd
            replace HS : Hid (AnR w rb F R0 (.slice ad R0.length cd) xb Fz (putC (putC Rx x) z) (.slice (some ⟨b, o, none⟩) R.length cap) R w6) := hS2
            clear hd hS2
            have HBz : Hid (BestL (z :: x :: Sx) (putC (putC Rx x) z)) := (HBe.out.put x).put z
            have hbe : Below w6.heap.size w6 (w6.alloc (.cells #[] 25)) := (Below.refl _ _).alloc (Nat.le_refl _) _
            have HB0 : Hid (BuR rgCells 7 25 w6 (.slice (some ⟨w6.heap.size, 0, none⟩) 0 0) [] (w6.alloc (.cells #[] 25))) := BuR.new w6
            obtain ⟨hblt, hpl⟩ : b < w6.heap.size ∧ (∀ i (h : i < R.length) j u, (rgCells R[i])[j]? = some u → w6.cell? ⟨b, o + i * 7 + j, none⟩ = some u) := rowsOf HS.out.re hR0
            have HC1 : Hid (∀ j u, (flatE rgCells (R.take f))[j]? = some u → (w6.alloc (.cells #[] 25)).cell? ((⟨b, o, none⟩ : Addr).add j) = some u) := fun j u hj => (by rw [Addr.add_lit]; exact (hbe.cell (p := ⟨b, o + j, none⟩) hblt).trans (rows_flat rgCells_len R o hpl j u (flat_pre rgCells_len hj)))
            have HC2 : Hid (∀ j u, (flatE rgCells (R.drop (f + 1)))[j]? = some u → w6.cell? ⟨b, o + (f + 1) * 7 + j, none⟩ = some u) := fun j u hj => (by rw [Nat.add_assoc]; exact rows_flat rgCells_len R o hpl _ u (flat_suf rgCells_len (by omega) hj))
            have HT1 : Hid ((R.take f).length = f) := by (show _ = _; rw [List.length_take]; omega)
            have HT2 : Hid ((R.drop (f + 1)).length = R.length - (f + 1)) := by (show _ = _; rw [List.length_drop])
            have HBl : Hid (b < w6.heap.size) := hblt
            have hsz1 : w6.heap.size ≤ (w6.alloc (.cells #[] 25)).heap.size := hbe.size
            obtain ⟨P, eP⟩ : ∃ P, P = R.take f := ⟨_, rfl⟩
            obtain ⟨Q, eQ⟩ : ∃ Q, Q = R.drop (f + 1) := ⟨_, rfl⟩
            rw [← eP] at HC1 HT1
            rw [← eQ] at HC2 HT2
            rw [← eP, ← eQ] at HAn0
            clear eP eQ
            obtain ⟨R2, eR2⟩ : ∃ R2, R2 = P ++ Q := ⟨_, rfl⟩
            have HR2 : Hid (P ++ Q = R2) := eR2.symm
            rw [← eR2] at HAn0
            have HRn : Hid (R2.length + 1 = R.length) := by (show _ = _; have h1 := HT1.out; have h2 := HT2.out; rw [eR2, List.length_append]; omega)
            clear eR2
            obtain ⟨Ad, hAd, HA2⟩ : ∃ A : Addr, (if cap = f + 1 then some (⟨b, o, none⟩ : Addr) else some ⟨b, o + (f + 1) * 7, none⟩) = some A ∧ Hid (∀ V : World, Below w6.heap.size w6 V → ∀ j u, (flatE rgCells Q)[j]? = some u → V.cell? (A.add j) = some u) := src2 rgCells_len HC2.out HBl.out hcR HT2.out
            clear hbe hpl hblt HC2
            go_wp2_with (first
              | (at_builtin; refine wpList_append_own_at _ rfl _ _ 30 rfl w6.heap.size 25 irg (.agg #[.int .i64 0, .int .i64 0, .string ⟨#[]⟩, .int .i64 0, .int .i64 0, .string ⟨#[]⟩, .bool false]) 7 72 Try.underlying30 hirg hz0rg hz1rg hz2rg rfl (by decide) _ _ _ rfl HB0.out.own ⟨b, o, none⟩ _ _ (flatE rgCells P) rfl (by have h8 := flatE_length rgCells_len P; have h9 := HT1.out; rw [h8, h9]; try (first | rfl | (congr 1; omega))) HC1.out (flat_rg _) (by (try simp only [List.length_nil]); have := HT1.out; have := HT2.out; unfold maxLen; omega) (by (try simp only [List.length_nil]); have := HT1.out; have := HT2.out; omega) hsz1 ?_; intro v1 w8 hown3 hgrow3 hnil3 hat3; have h0 := HB0.out.pushes (E := P) hown3 (by have := HT1.out; omega) hgrow3 hnil3; rw [List.nil_append] at h0; obtain ⟨g1, c1, e3⟩ := h0.sm; subst e3; have HB1 : Hid (BuR rgCells 7 25 w6 (.slice (some ⟨g1, 0, none⟩) P.length c1) P w8) := h0; clear h0 hown3 hgrow3 hnil3 hat3; have HC3 : Hid (∀ j u, (flatE rgCells Q)[j]? = some u → w8.cell? (Ad.add j) = some u) := HA2.out w8 HB1.out.bel; have hsz2 : w6.heap.size ≤ w8.heap.size := HB1.out.bel.size; clear HB0 HC1 hsz1)
              | (at_builtin; refine wpList_append_own_at _ rfl _ _ 30 rfl w6.heap.size 25 irg (.agg #[.int .i64 0, .int .i64 0, .string ⟨#[]⟩, .int .i64 0, .int .i64 0, .string ⟨#[]⟩, .bool false]) 7 72 Try.underlying30 hirg hz0rg hz1rg hz2rg rfl (by decide) _ _ _ rfl HB1.out.own Ad _ _ (flatE rgCells Q) rfl (by have h8 := flatE_length rgCells_len Q; have h9 := HT2.out; rw [h8, h9]; try (first | rfl | (congr 1; omega))) HC3.out (flat_rg _) (by (try simp only [List.length_nil]); have := HT1.out; have := HT2.out; unfold maxLen; omega) (by (try simp only [List.length_nil]); have := HT1.out; have := HT2.out; omega) hsz2 ?_; intro v2 w9 hown3 hgrow3 hnil3 hat3; have h0 := HB1.out.pushes (E := Q) hown3 (by have := HT2.out; omega) hgrow3 hnil3; rw [HR2.out] at h0; obtain ⟨g2, c2, e3⟩ := h0.sm; subst e3; have HB2 : Hid (BuR rgCells 7 25 w6 (.slice (some ⟨g2, 0, none⟩) R2.length c2) R2 w9) := h0; clear h0 hown3 hgrow3 hnil3 hat3; clear HB1 HC3 hsz2))
            have HSn : Hid (AnR w rb F R0 (.slice ad R0.length cd) xb Fz (putC (putC Rx x) z) (.slice (some ⟨g2, 0, none⟩) R2.length c2) R2 w9) := HS.out.rest HB2.out (by have := HRn.out; omega)
            have hRn := HRn.out
            go_roundw
            case rel => exact ⟨t + 1, R2, _, (z :: x :: Sx), Fz, by go_num, by omega, HSn, HBz, HAn0⟩
            case measure => simp only [slLen]; omega
          · have t1 : ¬ (t : Int) < (od.length : Int) := by omega
            go_upto_region 14 with fail
            obtain ⟨x, hx⟩ : ∃ x, R[0]? = some x := ⟨_, List.getElem?_eq_getElem hR0⟩
            have HXf : Hid (R[0]? = some x) := hx
            obtain ⟨z, hz⟩ : ∃ z, R[0]? = some z := ⟨_, List.getElem?_eq_getElem hR0⟩
            have HX0 : Hid (R[0]? = some z) := hz
            have HAn0 : Hid (∀ y, y ∈ (z :: x :: Sx) ∨ y ∈ (R.take 0 ++ R.drop 1) ↔ y ∈ l2) := any_set (f := 0) HAp.out hx hz
            have HSx : Hid (x.nm.size ≤ 281474976710656 ∧ z.nm.size ≤ 281474976710656) := ⟨Nat.le_trans (HSm.out x ((HAp.out x).1 (.inr (List.mem_of_getElem? hx)))).1 (by decide), Nat.le_trans (HSm.out z ((HAp.out z).1 (.inr (List.mem_of_getElem? hz)))).1 (by decide)⟩
            have hcR := HS.out.capR
            have z2 : (1 : Int) ≤ (R.length : Int) := by omega
            have z4 : 1 ≤ cap := by omega
            have z5 : 1 ≤ R.length := by omega
            clear hx hz
            have p0 : wr.cell? ⟨b, o, none⟩ = some (.int .i64 x.nd.1) := rows_at0 (rowsOf HS.out.re hR0).2 HXf.out 0 _ rfl
            have p1 : wr.cell? ⟨b, o + 1, none⟩ = some (.int .i64 x.nd.2) := rows_at0 (rowsOf HS.out.re hR0).2 HXf.out 1 _ rfl
            have p2 : wr.cell? ⟨b, o + 2, none⟩ = some (.string x.nm) := rows_at0 (rowsOf HS.out.re hR0).2 HXf.out 2 _ rfl
            have p3 : wr.cell? ⟨b, o + 3, none⟩ = some (.int .i64 x.at_.1) := rows_at0 (rowsOf HS.out.re hR0).2 HXf.out 3 _ rfl
            have p4 : wr.cell? ⟨b, o + 4, none⟩ = some (.int .i64 x.at_.2) := rows_at0 (rowsOf HS.out.re hR0).2 HXf.out 4 _ rfl
            have p5 : wr.cell? ⟨b, o + 5, none⟩ = some (.string x.vl) := rows_at0 (rowsOf HS.out.re hR0).2 HXf.out 5 _ rfl
            have p6 : wr.cell? ⟨b, o + 6, none⟩ = some (.bool x.gn) := rows_at0 (rowsOf HS.out.re hR0).2 HXf.out 6 _ rfl
            go_wp2_with fail
            clear p0 p1 p2 p3 p4 p5 p6
            refine (put_any Fx xb Rx x _ HS.out.xt (by have := HLx.out; omega) HSx.out.1).mono ?_
            rintro e w5 ⟨rfl, hd⟩
            obtain ⟨Fy, hS2⟩ := HS.out.did hd
            replace HS : Hid (AnR w rb F R0 (.slice ad R0.length cd) xb Fy (putC Rx x) (.slice (some ⟨b, o, none⟩) R.length cap) R w5) := hS2
            clear hd hS2
            have HLy : Hid ((putC Rx x).length ≤ 202) := (by have h1 := putC_length Rx x; have := HLx.out; show _ ≤ _; omega)
            have p0 : w5.cell? ⟨b, o, none⟩ = some (.int .i64 z.nd.1) := rows_at0 (rowsOf HS.out.re hR0).2 HX0.out 0 _ rfl
            have p1 : w5.cell? ⟨b, o + 1, none⟩ = some (.int .i64 z.nd.2) := rows_at0 (rowsOf HS.out.re hR0).2 HX0.out 1 _ rfl
            have p2 : w5.cell? ⟨b, o + 2, none⟩ = some (.string z.nm) := rows_at0 (rowsOf HS.out.re hR0).2 HX0.out 2 _ rfl
            have p3 : w5.cell? ⟨b, o + 3, none⟩ = some (.int .i64 z.at_.1) := rows_at0 (rowsOf HS.out.re hR0).2 HX0.out 3 _ rfl
            have p4 : w5.cell? ⟨b, o + 4, none⟩ = some (.int .i64 z.at_.2) := rows_at0 (rowsOf HS.out.re hR0).2 HX0.out 4 _ rfl
            have p5 : w5.cell? ⟨b, o + 5, none⟩ = some (.string z.vl) := rows_at0 (rowsOf HS.out.re hR0).2 HX0.out 5 _ rfl
            have p6 : w5.cell? ⟨b, o + 6, none⟩ = some (.bool z.gn) := rows_at0 (rowsOf HS.out.re hR0).2 HX0.out 6 _ rfl
            go_wp2_with fail
            clear p0 p1 p2 p3 p4 p5 p6
            refine (put_any Fy xb (putC Rx x) z _ HS.out.xt (by have := HLy.out; omega) HSx.out.2).mono ?_
            rintro e w6 ⟨rfl, hd⟩
            obtain ⟨Fz, hS2⟩ := HS.out.did hd
            replace HS : Hid (AnR w rb F R0 (.slice ad R0.length cd) xb Fz (putC (putC Rx x) z) (.slice (some ⟨b, o, none⟩) R.length cap) R w6) := hS2
            clear hd hS2
            have HBz : Hid (BestL (z :: x :: Sx) (putC (putC Rx x) z)) := (HBe.out.put x).put z
            have hbe : Below w6.heap.size w6 (w6.alloc (.cells #[] 25)) := (Below.refl _ _).alloc (Nat.le_refl _) _
            have HB0 : Hid (BuR rgCells 7 25 w6 (.slice (some ⟨w6.heap.size, 0, none⟩) 0 0) [] (w6.alloc (.cells #[] 25))) := BuR.new w6
            obtain ⟨hblt, hpl⟩ : b < w6.heap.size ∧ (∀ i (h : i < R.length) j u, (rgCells R[i])[j]? = some u → w6.cell? ⟨b, o + i * 7 + j, none⟩ = some u) := rowsOf HS.out.re hR0
            have HC1 : Hid (∀ j u, (flatE rgCells (R.take 0))[j]? = some u → (w6.alloc (.cells #[] 25)).cell? ((⟨b, o, none⟩ : Addr).add j) = some u) := fun j u hj => (by rw [Addr.add_lit]; exact (hbe.cell (p := ⟨b, o + j, none⟩) hblt).trans (rows_flat rgCells_len R o hpl j u (flat_pre rgCells_len hj)))
            have HC2 : Hid (∀ j u, (flatE rgCells (R.drop 1))[j]? = some u → w6.cell? ⟨b, o + 7 + j, none⟩ = some u) := fun j u hj => (by rw [Nat.add_assoc]; exact rows_flat rgCells_len R o hpl _ u (flat_suf (f := 1) rgCells_len (by omega) hj))
            have HT1 : Hid ((R.take 0).length = 0) := by (show _ = _; rw [List.length_take]; omega)
            have HT2 : Hid ((R.drop 1).length = R.length - 1) := by (show _ = _; rw [List.length_drop])
            have HBl : Hid (b < w6.heap.size) := hblt
            have hsz1 : w6.heap.size ≤ (w6.alloc (.cells #[] 25)).heap.size := hbe.size
            obtain ⟨P, eP⟩ : ∃ P, P = R.take 0 := ⟨_, rfl⟩
            obtain ⟨Q, eQ⟩ : ∃ Q, Q = R.drop 1 := ⟨_, rfl⟩
            rw [← eP] at HC1 HT1
            rw [← eQ] at HC2 HT2
            rw [← eP, ← eQ] at HAn0
            clear eP eQ
            obtain ⟨R2, eR2⟩ : ∃ R2, R2 = P ++ Q := ⟨_, rfl⟩
            have HR2 : Hid (P ++ Q = R2) := eR2.symm
            rw [← eR2] at HAn0
            have HRn : Hid (R2.length + 1 = R.length) := by (show _ = _; have h1 := HT1.out; have h2 := HT2.out; rw [eR2, List.length_append]; omega)
            clear eR2
            obtain ⟨Ad, hAd, HA2⟩ : ∃ A : Addr, (if cap = 1 then some (⟨b, o, none⟩ : Addr) else some ⟨b, o + 7, none⟩) = some A ∧ Hid (∀ V : World, Below w6.heap.size w6 V → ∀ j u, (flatE rgCells Q)[j]? = some u → V.cell? (A.add j) = some u) := src2 (f := 0) rgCells_len HC2.out HBl.out hcR HT2.out
            clear hbe hpl hblt HC2
            go_wp2_with (first
              | (at_builtin; refine wpList_append_own_at _ rfl _ _ 30 rfl w6.heap.size 25 irg (.agg #[.int .i64 0, .int .i64 0, .string ⟨#[]⟩, .int .i64 0, .int .i64 0, .string ⟨#[]⟩, .bool false]) 7 72 Try.underlying30 hirg hz0rg hz1rg hz2rg rfl (by decide) _ _ _ rfl HB0.out.own ⟨b, o, none⟩ _ _ (flatE rgCells P) rfl (by have h8 := flatE_length rgCells_len P; have h9 := HT1.out; rw [h8, h9]; try (first | rfl | (congr 1; omega))) HC1.out (flat_rg _) (by (try simp only [List.length_nil]); have := HT1.out; have := HT2.out; unfold maxLen; omega) (by (try simp only [List.length_nil]); have := HT1.out; have := HT2.out; omega) hsz1 ?_; intro v1 w8 hown3 hgrow3 hnil3 hat3; have h0 := HB0.out.pushes (E := P) hown3 (by have := HT1.out; omega) hgrow3 hnil3; rw [List.nil_append] at h0; obtain ⟨g1, c1, e3⟩ := h0.sm; subst e3; have HB1 : Hid (BuR rgCells 7 25 w6 (.slice (some ⟨g1, 0, none⟩) P.length c1) P w8) := h0; clear h0 hown3 hgrow3 hnil3 hat3; have HC3 : Hid (∀ j u, (flatE rgCells Q)[j]? = some u → w8.cell? (Ad.add j) = some u) := HA2.out w8 HB1.out.bel; have hsz2 : w6.heap.size ≤ w8.heap.size := HB1.out.bel.size; clear HB0 HC1 hsz1)
              | (at_builtin; refine wpList_append_own_at _ rfl _ _ 30 rfl w6.heap.size 25 irg (.agg #[.int .i64 0, .int .i64 0, .string ⟨#[]⟩, .int .i64 0, .int .i64 0, .string ⟨#[]⟩, .bool false]) 7 72 Try.underlying30 hirg hz0rg hz1rg hz2rg rfl (by decide) _ _ _ rfl HB1.out.own Ad _ _ (flatE rgCells Q) rfl (by have h8 := flatE_length rgCells_len Q; have h9 := HT2.out; rw [h8, h9]; try (first | rfl | (congr 1; omega))) HC3.out (flat_rg _) (by (try simp only [List.length_nil]); have := HT1.out; have := HT2.out; unfold maxLen; omega) (by (try simp only [List.length_nil]); have := HT1.out; have := HT2.out; omega) hsz2 ?_; intro v2 w9 hown3 hgrow3 hnil3 hat3; have h0 := HB1.out.pushes (E := Q) hown3 (by have := HT2.out; omega) hgrow3 hnil3; rw [HR2.out] at h0; obtain ⟨g2, c2, e3⟩ := h0.sm; subst e3; have HB2 : Hid (BuR rgCells 7 25 w6 (.slice (some ⟨g2, 0, none⟩) R2.length c2) R2 w9) := h0; clear h0 hown3 hgrow3 hnil3 hat3; clear HB1 HC3 hsz2))
            have HSn : Hid (AnR w rb F R0 (.slice ad R0.length cd) xb Fz (putC (putC Rx x) z) (.slice (some ⟨g2, 0, none⟩) R2.length c2) R2 w9) := HS.out.rest HB2.out (by have := HRn.out; omega)
            have hRn := HRn.out
            go_roundw
            case rel => exact ⟨t + 1, R2, _, (z :: x :: Sx), Fz, by go_num, by omega, HSn, HBz, HAn0⟩
            case measure => simp only [slLen]; omega
        · have hRn : R = [] := by (cases R with | nil => rfl | cons x R => simp at hR0)
          subst hRn
          have HE : Hid (Rx = R0) := HBe.out.uniq (HB0.out.set fun y => (by have := HAp.out y; simp at this; exact this.symm))
          clear HAp HBe
          obtain rfl : Rx = R0 := HE.out
          clear HE
          go_wp2_with fail
          refine (all_v F _ Rx _ HS.out.tt.rv).mono ?_
          rintro e w5 ⟨u, rfl, ho, hb⟩
          replace HS := hide8 (HS.out.below hb)
          obtain ⟨oa, oc, eo⟩ := ho.form
          subst eo
          have HO1 : Hid (LsE rgCells 7 (fun _ => True) w5 (.slice oa Rx.length oc) Rx) := ho.lsE rgCells_len (by have := HLx.out; omega) (fun _ _ => trivial)
          clear ho hb
          go_wp2_with fail
          refine (all_v Fx _ Rx _ HS.out.xt.rv).mono ?_
          rintro e w6 ⟨u, rfl, ho, hb⟩
          replace HS := hide8 (HS.out.below hb)
          replace HO1 : Hid (LsE rgCells 7 (fun _ => True) w6 (.slice oa Rx.length oc) Rx) := HO1.out.below hb
          obtain ⟨oa2, oc2, eo⟩ := ho.form
          subst eo
          have HO2 : Hid (LsE rgCells 7 (fun _ => True) w6 (.slice oa2 Rx.length oc2) Rx) := ho.lsE rgCells_len (by have := HLx.out; omega) (fun _ _ => trivial)
          clear ho hb
          go_wp2_with fail
          refine (refSame_any _ _ _ _ Rx Rx _ HO1.out HO2.out).mono ?_
          rintro e w7 ⟨rfl, hb⟩
          replace HS := hide8 (HS.out.below hb)
          clear hb HO1 HO2
          rw [decide_eq_true rfl]
          go_wp2_with fail
          refine (all_v Fx _ Rx _ HS.out.xt.rv).mono ?_
          rintro e w8 ⟨u, rfl, ho, hb⟩
          replace HS := hide8 (HS.out.below hb)
          obtain ⟨oa3, oc3, eo⟩ := ho.form
          subst eo
          have HO3 : Hid (LsE rgCells 7 (fun _ => True) w8 (.slice oa3 Rx.length oc3) Rx) := ho.lsE rgCells_len (by have := HLx.out; omega) (fun _ _ => trivial)
          clear ho hb
          go_wp2_with fail
          refine (refSame_any _ _ _ _ Rx Rx _ HO3.out HS.out.doc).mono ?_
          rintro e w9 ⟨rfl, hb⟩
          replace HS := hide8 (HS.out.below hb)
          clear hb HO3
          rw [decide_eq_true rfl]
          go_wp2_with fail
          refine (awake_any _).mono ?_
          rintro e w10 ⟨rfl, hb⟩
          have HB : Hid (Below w.heap.size w w10) := HS.out.bel.trans (hb.mono HS.out.bel.size)
          clear hb HS
          go_wp2
          go_ret
          exact ⟨rfl, HB.out⟩
    · have hn : l2 = [] := by (cases l2 with | nil => rfl | cons x R => simp at hl0)
      subst hn
      cases a1 with
      | none =>
        have hbe : Below w2.heap.size w2 (w2.alloc (.cells #[] 25)) := (Below.refl _ _).alloc (Nat.le_refl _) _
        have HB0n : Hid (BuR rgCells 7 25 w2 (.slice (some ⟨w2.heap.size, 0, none⟩) 0 0) [] (w2.alloc (.cells #[] 25))) := BuR.new w2
        have hap := app0 w2.heap.size c1
        go_wp2_with fail
        clear hap
        have HS3 : Hid (AnR w rb F R0 (.slice ad R0.length cd) xb Fx0 [] (.slice (some ⟨w2.heap.size, 0, none⟩) ([] : List Rg).length 0) [] (w2.alloc (.cells #[] 25))) := HS2.out.rest HB0n.out (by simp)
        clear HS2 HB0n hbe
        clear HL2
        go_loopw [8, 9] (fun rv tv wr => tv = .int .i64 0 ∧ Hid (AnR w rb F R0 (.slice ad R0.length cd) xb Fx0 [] rv [] wr)) (fun _ _ _ => 0)
        case atStart => exact ⟨rfl, HS3⟩
        case round =>
          clear HS3
          obtain ⟨rfl, HS⟩ := hrel
          obtain ⟨b, o, cap, e5⟩ := HS.out.sm
          subst e5
          have HE : Hid (R0 = []) := HB0.out.uniq BestL.nil
          have HLx : Hid (([] : List Rg).length ≤ 200) := Nat.zero_le _
          obtain rfl : R0 = [] := HE.out
          clear HE HB0
          go_wp2_with fail
          refine (all_v F _ ([] : List Rg) _ HS.out.tt.rv).mono ?_
          rintro e w5 ⟨u, rfl, ho, hb⟩
          replace HS := hide8 (HS.out.below hb)
          obtain ⟨oa, oc, eo⟩ := ho.form
          subst eo
          have HO1 : Hid (LsE rgCells 7 (fun _ => True) w5 (.slice oa ([] : List Rg).length oc) ([] : List Rg)) := ho.lsE rgCells_len (by have := HLx.out; omega) (fun _ _ => trivial)
          clear ho hb
          go_wp2_with fail
          refine (all_v Fx0 _ ([] : List Rg) _ HS.out.xt.rv).mono ?_
          rintro e w6 ⟨u, rfl, ho, hb⟩
          replace HS := hide8 (HS.out.below hb)
          replace HO1 : Hid (LsE rgCells 7 (fun _ => True) w6 (.slice oa ([] : List Rg).length oc) ([] : List Rg)) := HO1.out.below hb
          obtain ⟨oa2, oc2, eo⟩ := ho.form
          subst eo
          have HO2 : Hid (LsE rgCells 7 (fun _ => True) w6 (.slice oa2 ([] : List Rg).length oc2) ([] : List Rg)) := ho.lsE rgCells_len (by have := HLx.out; omega) (fun _ _ => trivial)
          clear ho hb
          go_wp2_with fail
          refine (refSame_any _ _ _ _ ([] : List Rg) ([] : List Rg) _ HO1.out HO2.out).mono ?_
          rintro e w7 ⟨rfl, hb⟩
          replace HS := hide8 (HS.out.below hb)
          clear hb HO1 HO2
          rw [decide_eq_true rfl]
          go_wp2_with fail
          refine (all_v Fx0 _ ([] : List Rg) _ HS.out.xt.rv).mono ?_
          rintro e w8 ⟨u, rfl, ho, hb⟩
          replace HS := hide8 (HS.out.below hb)
          obtain ⟨oa3, oc3, eo⟩ := ho.form
          subst eo
          have HO3 : Hid (LsE rgCells 7 (fun _ => True) w8 (.slice oa3 ([] : List Rg).length oc3) ([] : List Rg)) := ho.lsE rgCells_len (by have := HLx.out; omega) (fun _ _ => trivial)
          clear ho hb
          go_wp2_with fail
          refine (refSame_any _ _ _ _ ([] : List Rg) ([] : List Rg) _ HO3.out HS.out.doc).mono ?_
          rintro e w9 ⟨rfl, hb⟩
          replace HS := hide8 (HS.out.below hb)
          clear hb HO3
          rw [decide_eq_true rfl]
          go_wp2_with fail
          refine (awake_any _).mono ?_
          rintro e w10 ⟨rfl, hb⟩
          have HB : Hid (Below w.heap.size w w10) := HS.out.bel.trans (hb.mono HS.out.bel.size)
          clear hb HS
          go_wp2
          go_ret
          exact ⟨rfl, HB.out⟩
      | some ad9 =>
        have hbe : Below w2.heap.size w2 (w2.alloc (.cells #[] 25)) := (Below.refl _ _).alloc (Nat.le_refl _) _
        have HB0n : Hid (BuR rgCells 7 25 w2 (.slice (some ⟨w2.heap.size, 0, none⟩) 0 0) [] (w2.alloc (.cells #[] 25))) := BuR.new w2
        have HC0 : Hid (∀ j u, (flatE rgCells ([] : List Rg))[j]? = some u → (w2.alloc (.cells #[] 25)).cell? (ad9.add j) = some u) := (by intro j u hj; simp [flatE] at hj)
        have hsz0 : w2.heap.size ≤ (w2.alloc (.cells #[] 25)).heap.size := hbe.size
        clear hbe
        go_wp2_with (at_builtin; refine wpList_append_own_at _ rfl _ _ 30 rfl w2.heap.size 25 irg (.agg #[.int .i64 0, .int .i64 0, .string ⟨#[]⟩, .int .i64 0, .int .i64 0, .string ⟨#[]⟩, .bool false]) 7 72 Try.underlying30 hirg hz0rg hz1rg hz2rg rfl (by decide) _ _ _ rfl HB0n.out.own ad9 ([] : List Rg).length _ (flatE rgCells ([] : List Rg)) rfl (flatE_length rgCells_len ([] : List Rg)) HC0.out (flat_rg []) (by unfold maxLen; simp only [List.length_nil]; omega) (by simp only [List.length_nil]; omega) hsz0 ?_; intro v3 w3 hown3 hgrow3 hnil3 hat3; have h0 := HB0n.out.pushes hown3 rfl hgrow3 hnil3; rw [List.nil_append] at h0; obtain ⟨g5, c5, e3⟩ := h0.sm; subst e3; have HB1 : Hid (BuR rgCells 7 25 w2 (.slice (some ⟨g5, 0, none⟩) ([] : List Rg).length c5) [] w3) := h0; clear h0 hown3 hgrow3 hnil3 hat3 HB0n HC0 hsz0)
        have HS3 : Hid (AnR w rb F R0 (.slice ad R0.length cd) xb Fx0 [] (.slice (some ⟨g5, 0, none⟩) ([] : List Rg).length c5) [] w3) := HS2.out.rest HB1.out (by omega)
        clear HS2 HB1
        clear HL2
        go_loopw [8, 9] (fun rv tv wr => tv = .int .i64 0 ∧ Hid (AnR w rb F R0 (.slice ad R0.length cd) xb Fx0 [] rv [] wr)) (fun _ _ _ => 0)
        case atStart => exact ⟨rfl, HS3⟩
        case round =>
          clear HS3
          obtain ⟨rfl, HS⟩ := hrel
          obtain ⟨b, o, cap, e5⟩ := HS.out.sm
          subst e5
          have HE : Hid (R0 = []) := HB0.out.uniq BestL.nil
          have HLx : Hid (([] : List Rg).length ≤ 200) := Nat.zero_le _
          obtain rfl : R0 = [] := HE.out
          clear HE HB0
          go_wp2_with fail
          refine (all_v F _ ([] : List Rg) _ HS.out.tt.rv).mono ?_
          rintro e w5 ⟨u, rfl, ho, hb⟩
          replace HS := hide8 (HS.out.below hb)
          obtain ⟨oa, oc, eo⟩ := ho.form
          subst eo
          have HO1 : Hid (LsE rgCells 7 (fun _ => True) w5 (.slice oa ([] : List Rg).length oc) ([] : List Rg)) := ho.lsE rgCells_len (by have := HLx.out; omega) (fun _ _ => trivial)
          clear ho hb
          go_wp2_with fail
          refine (all_v Fx0 _ ([] : List Rg) _ HS.out.xt.rv).mono ?_
          rintro e w6 ⟨u, rfl, ho, hb⟩
          replace HS := hide8 (HS.out.below hb)
          replace HO1 : Hid (LsE rgCells 7 (fun _ => True) w6 (.slice oa ([] : List Rg).length oc) ([] : List Rg)) := HO1.out.below hb
          obtain ⟨oa2, oc2, eo⟩ := ho.form
          subst eo
          have HO2 : Hid (LsE rgCells 7 (fun _ => True) w6 (.slice oa2 ([] : List Rg).length oc2) ([] : List Rg)) := ho.lsE rgCells_len (by have := HLx.out; omega) (fun _ _ => trivial)
          clear ho hb
          go_wp2_with fail
          refine (refSame_any _ _ _ _ ([] : List Rg) ([] : List Rg) _ HO1.out HO2.out).mono ?_
          rintro e w7 ⟨rfl, hb⟩
          replace HS := hide8 (HS.out.below hb)
          clear hb HO1 HO2
          rw [decide_eq_true rfl]
          go_wp2_with fail
          refine (all_v Fx0 _ ([] : List Rg) _ HS.out.xt.rv).mono ?_
          rintro e w8 ⟨u, rfl, ho, hb⟩
          replace HS := hide8 (HS.out.below hb)
          obtain ⟨oa3, oc3, eo⟩ := ho.form
          subst eo
          have HO3 : Hid (LsE rgCells 7 (fun _ => True) w8 (.slice oa3 ([] : List Rg).length oc3) ([] : List Rg)) := ho.lsE rgCells_len (by have := HLx.out; omega) (fun _ _ => trivial)
          clear ho hb
          go_wp2_with fail
          refine (refSame_any _ _ _ _ ([] : List Rg) ([] : List Rg) _ HO3.out HS.out.doc).mono ?_
          rintro e w9 ⟨rfl, hb⟩
          replace HS := hide8 (HS.out.below hb)
          clear hb HO3
          rw [decide_eq_true rfl]
          go_wp2_with fail
          refine (awake_any _).mono ?_
          rintro e w10 ⟨rfl, hb⟩
          have HB : Hid (Below w.heap.size w w10) := HS.out.bel.trans (hb.mono HS.out.bel.size)
          clear hb HS
          go_wp2
          go_ret
          exact ⟨rfl, HB.out⟩

end Go.Proofs.Ytoljacnipkibiaa
