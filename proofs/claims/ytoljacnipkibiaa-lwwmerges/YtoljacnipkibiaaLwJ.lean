/- Names and stamps gathered; names sorted; a map's stamps. -/
import Derived.Test.YtoljacnipkibiaaLwI
import Derived.Test.YtoljacnipkibiaaLaysZ
import Derived.Test.YtoljacnipkibiaaLwF
import Derived.Laws.EntriesVeiled
import Derived.Maps.AppendAt
import Derived.OwnWalkIn
import Derived.RangeFuncBox
import Derived.Sort.OwnSorted
namespace Go.Proofs.Ytoljacnipkibiaa
open Go.RowKit Go.Shelf Go.Sort
set_option linter.unusedVariables false
set_option linter.unusedSimpArgs false

attribute [local go_sem] Oper.semAt_some


theorem nmCells_one (x : ByteArray) : ∀ u ∈ nmCells x, u.oneCell' = true := by
  intro u hu
  simp only [nmCells, List.mem_cons, List.not_mem_nil, or_false] at hu
  subst hu
  rfl

set_option maxRecDepth 100000 in
set_option maxHeartbeats 8000000 in
theorem appS_in (n : Nat) (hn : 5 ≤ n) (gf : Nat) (lb : Array Value) (eg : ∀ args w, (callFunc gf args).run Try.prog w = .ok (.enter gf args) w) (S : Nat → Prop) (xs : List (ByteArray)) (w : World) (hxl : xs.length ≤ 16384)
    (hS : ∀ k, S k → k < w.heap.size) (hseq : SeqOf (n - 1) Try.prog gf lb encN (KeepsS S) xs w) :
    CallsIn Fence.wide n Try.prog 68 #[.slice none 0 0, .func (.func gf) #[] lb] w fun e w' => ∃ v', e = .returned v' ∧ OwnNm w.heap.size w' v' xs ∧ Below w.heap.size w w' := by
  obtain ⟨i0, hi, hz0, hz1, hz2⟩ := info_parts infoStr
  have hro : Fence.wide.round = none := rfl
  have h1n : 1 ≤ n := by omega
  refine callsIn_of_wp_marksN Try.func68 rfl trivial ?_ hro
  simp only [Try.ntmps68, List.size_toArray, List.length_cons, List.length_nil, Nat.reduceAdd, Nat.reduceSub, Array.replicate_succ, Array.replicate_zero, List.push_toArray, List.append_toArray, List.nil_append, List.cons_append]
  gi_wp2
  obtain ⟨W2, eW2⟩ : ∃ X, X = w.alloc (.cells #[.slice none 0 0] 72) := ⟨_, rfl⟩
  have hb2 : Below w.heap.size w W2 := by rw [eW2]; exact (Below.refl _ _).alloc (Nat.le_refl _) _
  have hsz2 : W2.heap.size = w.heap.size + 1 := by rw [eW2]; simp
  have HX2 : Hid (BxC w.heap.size [.slice none 0 0] 72 W2) := by rw [eW2]; exact BxC.new _ _ _
  rw [← eW2]
  clear eW2
  have HS2 : Hid (∀ k, S k → k < W2.heap.size) := fun k hk => by have := hS k hk; omega
  have HA0 : Hid (ColB nmCells 1 9 72 w W2 w.heap.size S (.slice none 0 0) [] W2) := ⟨HX2.out, OwnE.nil0 _ _, hb2, KeepsS.refl _ _, HS2.out, Nat.le_refl _, by omega, fun hk => by have := hS _ hk; omega, fun k e => by cases e⟩
  clear hS HX2
  refine range_of h1n (gf := gf) (lb := lb) rfl eg hseq KeepsS.trans (keepsSK_b HS2.out) hb2 (fun _ => rfl)
    (fun k W => ∃ ov, ColB nmCells 1 9 72 w W2 w.heap.size S ov (xs.take k) W) (fun _ _ _ => False)
    (fun k A B row ⟨ov, h1⟩ hg hr => ⟨ov, h1.grown hg hr⟩) (fun c k A B row hf _ _ => hf) ⟨_, HA0.out⟩
    (fun x a' W => a' = { tmps := #[.slice none 0 0, .func (.func gf) #[] lb, .pointer (some ⟨w.heap.size, 0, none⟩), undef, .slice none 0 0, .string x, .func (.func gf) #[] lb, .string x, undef, undef, undef, undef, undef], defers := [] })
    (fun x a' u A B row h1 hg hr => h1)
    ?assign ?body ?done ?stop
  case assign =>
    rintro l k hk W K ⟨ov, hA⟩ hK
    obtain ⟨x, hx⟩ : ∃ x, x = xs[k] := ⟨_, rfl⟩
    rw [← hx] at hK ⊢
    clear hx
    have HFin : Hid (K { tmps := #[.slice none 0 0, .func (.func gf) #[] lb, .pointer (some ⟨w.heap.size, 0, none⟩), undef, .slice none 0 0, .string x, .func (.func gf) #[] lb, .string x, undef, undef, undef, undef, undef], defers := [] } W) := hK _ W (KeepsFrom.refl _ _) (KeepsS.refl _ _) ⟨ov, hA⟩ rfl
    clear hK hA
    simp only [encN]
    gi_wp2
    exact HFin.out
  case body =>
    rintro l k hk a' W hlD ⟨ov, hA⟩ rfl
    have HTk : Hid (xs.take (k + 1) = xs.take k ++ [xs[k]]) := List.take_succ_eq_append_getElem hk
    obtain ⟨E, eE⟩ : ∃ E, E = xs.take k := ⟨_, rfl⟩
    have hTl : E.length ≤ 16384 := by (rw [eE, List.length_take]; omega)
    rw [← eE] at hA HTk
    generalize xs[k] = x at *
    clear eE
    obtain ⟨aw, cw, eo⟩ := hA.own.form
    subst eo
    have HA : Hid (ColB nmCells 1 9 72 w W2 w.heap.size S (.slice aw E.length cw) E W) := hA
    clear hA
    have xo := HA.out.box.cell 0 _ rfl
    have hal : Below W.heap.size W (W.alloc (.cells #[.string x] 9)) := (Below.refl _ _).alloc (Nat.le_refl _) _
    have HAa : Hid (ColB nmCells 1 9 72 w W2 w.heap.size S (.slice aw E.length cw) E (W.alloc (.cells #[.string x] 9))) := HA.out.below hal
    have HKa : Hid (KeepsFrom W2.heap.size W (W.alloc (.cells #[.string x] 9)) ∧ KeepsS S W (W.alloc (.cells #[.string x] 9))) := ⟨keepsFrom_below hal, KeepsS.of_below hal (fun j hj => Nat.lt_of_lt_of_le (HA.out.kl j hj) HA.out.size)⟩
    have HNw : Hid (∀ j u, ([.string x] : List Value)[j]? = some u → (W.alloc (.cells #[.string x] 9)).cell? ((⟨W.heap.size, 0, none⟩ : Addr).add j) = some u) := fun j u hj => by
      rw [Addr.add_lit, cell_of_row _ _ _ _ _ _ (heap_alloc_new W _)]
      simpa using hj
    have hsz : w.heap.size ≤ (W.alloc (.cells #[.string x] 9)).heap.size := HAa.out.bel.size
    clear hal
    gi_wp2_with (gi_at_builtin; refine wpListIn_append_own_at _ rfl _ _ 72 rfl w.heap.size 9 i0 (.string ⟨#[]⟩) 1 16 Try.underlying72 hi hz0 hz1 hz2 rfl (by decide) _ _ _ rfl HAa.out.own ⟨W.heap.size, 0, none⟩ 1 1 [.string x] rfl rfl HNw.out (nmCells_one x) (by unfold maxLen; omega) (by omega) hsz ?_; intro v3 w3 hown3 hgrow3 hat3; obtain ⟨g3, c3, e3⟩ : ∃ g c, v3 = .slice (some ⟨g, 0, none⟩) (E.length + 1) c := (ownsRow_succ hown3); subst e3; have HP3 := hide7 (HAa.out.push (by decide) (x := x) hown3 hgrow3 hat3); have xo3 := HP3.out.2.1.cell 0 _ rfl; have xf3 := HP3.out.2.1.free 0; clear hown3 hgrow3 hat3)
    exact ⟨KeepsFrom.trans HKa.out.1 (HP3.out.2.2.1 _), HKa.out.2.trans HP3.out.2.2.2.1, _, by rw [HTk.out]; exact HP3.out.1⟩
  case done =>
    rintro Dd W hDd ⟨ov, hA⟩ hDf
    rw [List.take_length] at hA
    have HA : Hid (ColB nmCells 1 9 72 w W2 w.heap.size S ov xs W) := hA
    have HDf : Hid (W.heap[Dd]? = some (.deferred (some []))) := hDf
    have x1 := hA.box.cell 0 _ rfl
    clear hA hDf
    gi_wp2
    refine ⟨by simp, .inl ⟨_, _, rfl, run_takeDeferred HDf.out, ?_⟩⟩
    have hgp : W.grownBy (W.putObj Dd (.deferred none)) (some Dd) := grownBy_putObj' W Dd (.deferred none)
    have hE2 := HA.out.grown hgp (fun r e => by cases e; exact ⟨hDd, _, HDf.out, rfl⟩)
    exact ⟨_, results_tmp rfl _ _ _, ov, rfl, hE2.own, hE2.bel⟩
  case stop => rintro D c k W hD hk hf; exact hf.elim
theorem colS_any (gf : Nat) (lb : Array Value) (eg : ∀ args w, (callFunc gf args).run Try.prog w = .ok (.enter gf args) w) (S : Nat → Prop) (xs : List (ByteArray)) (w : World) (hxl : xs.length ≤ 16384)
    (hS : ∀ k, S k → k < w.heap.size) (hseq : SeqOf 4 Try.prog gf lb encN (KeepsS S) xs w) :
    Calls Try.prog 62 #[.func (.func gf) #[] lb] w fun e w' => ∃ v', e = .returned v' ∧ OwnNm w.heap.size w' v' xs ∧ Below w.heap.size w w' := by
  go_enter Try.func62, Try.ntmps62
  go_wp2_with fail
  refine (callsIn_wide.1 (appS_in 5 (Nat.le_refl _) gf lb eg S xs w hxl hS hseq)).mono ?_
  rintro e w1 ⟨v1, rfl, ho, hb⟩
  have HO : Hid (OwnNm w.heap.size w1 v1 xs) := ho
  have HB : Hid (Below w.heap.size w w1) := hb
  obtain ⟨a1, c1, e1⟩ := ho.form
  subst e1
  clear ho hb
  go_wp2
  go_ret
  exact ⟨_, rfl, HO.out, HB.out⟩

set_option maxRecDepth 100000 in
set_option maxHeartbeats 8000000 in
theorem appT_in (n : Nat) (hn : 5 ≤ n) (gf : Nat) (lb : Array Value) (eg : ∀ args w, (callFunc gf args).run Try.prog w = .ok (.enter gf args) w) (S : Nat → Prop) (xs : List (St)) (w : World) (hxl : xs.length ≤ 16384)
    (hS : ∀ k, S k → k < w.heap.size) (hseq : SeqPm (n - 1) Try.prog gf lb encT (KpW S) xs w) :
    CallsIn Fence.wide n Try.prog 50 #[.slice none 0 0, .func (.func gf) #[] lb] w fun e w' => ∃ v' E, e = .returned v' ∧ E.Perm xs ∧ OwnSt w.heap.size w' v' E ∧ Below w.heap.size w w' := by
  obtain ⟨i0, hi, hz0, hz1, hz2⟩ := info_parts infoStp
  have hro : Fence.wide.round = none := rfl
  have h1n : 1 ≤ n := by omega
  refine callsIn_of_wp_marksN Try.func50 rfl trivial ?_ hro
  simp only [Try.ntmps50, List.size_toArray, List.length_cons, List.length_nil, Nat.reduceAdd, Nat.reduceSub, Array.replicate_succ, Array.replicate_zero, List.push_toArray, List.append_toArray, List.nil_append, List.cons_append]
  gi_wp2
  obtain ⟨W2, eW2⟩ : ∃ X, X = w.alloc (.cells #[.slice none 0 0] 69) := ⟨_, rfl⟩
  have hb2 : Below w.heap.size w W2 := by rw [eW2]; exact (Below.refl _ _).alloc (Nat.le_refl _) _
  have hsz2 : W2.heap.size = w.heap.size + 1 := by rw [eW2]; simp
  have HX2 : Hid (BxC w.heap.size [.slice none 0 0] 69 W2) := by rw [eW2]; exact BxC.new _ _ _
  rw [← eW2]
  clear eW2
  have HS2 : Hid (∀ k, S k → k < W2.heap.size) := fun k hk => by have := hS k hk; omega
  have HA0 : Hid (ColB stCells 2 23 69 w W2 w.heap.size S (.slice none 0 0) [] W2) := ⟨HX2.out, OwnE.nil0 _ _, hb2, KeepsS.refl _ _, HS2.out, Nat.le_refl _, by omega, fun hk => by have := hS _ hk; omega, fun k e => by cases e⟩
  clear hS HX2
  refine range_pm h1n (gf := gf) (lb := lb) rfl eg hseq KpW.trans (KpW.loop HS2.out) hb2 (fun _ => rfl)
    (fun E W => ∃ ov, ColB stCells 2 23 69 w W2 w.heap.size S ov E W)
    (fun k A B row ⟨ov, h1⟩ hg hr => ⟨ov, h1.grown hg hr⟩) ⟨_, HA0.out⟩
    (fun x a' W => ∃ Bx, W2.heap.size ≤ Bx ∧ BxC Bx (stCells x) 23 W ∧ a' = { tmps := #[.slice none 0 0, .func (.func gf) #[] lb, .pointer (some ⟨w.heap.size, 0, none⟩), undef, .slice none 0 0, .pointer (some ⟨Bx, 0, none⟩), .func (.func gf) #[] lb, .agg #[.int .i64 x.1, .int .i64 x.2], undef, undef, undef, undef, undef], defers := [] })
    (fun x a' u A B row ⟨Bx, h1, h2, h5⟩ hg hr => ⟨Bx, h1, row_own h2 hg (fun r e => (hr r e).2), h5⟩)
    ?assign ?body ?done
  case assign =>
    rintro l E x R hp W K ⟨ov, hA⟩ hK
    have hb : Below W.heap.size W (W.alloc (.cells #[.int .i64 x.1, .int .i64 x.2] 23)) := (Below.refl _ _).alloc (Nat.le_refl _) _
    have hfin := fun a' e5 => hK a' (W.alloc (.cells #[.int .i64 x.1, .int .i64 x.2] 23)) (keepsFrom_below hb) (KpW.below hb (fun j hj => Nat.lt_of_lt_of_le (hA.kl j hj) hA.size)) ⟨ov, hA.below hb⟩ ⟨W.heap.size, hA.size, BxC.new _ _ _, e5⟩
    have HFin : Hid (K { tmps := #[.slice none 0 0, .func (.func gf) #[] lb, .pointer (some ⟨w.heap.size, 0, none⟩), undef, .slice none 0 0, .pointer (some ⟨W.heap.size, 0, none⟩), .func (.func gf) #[] lb, .agg #[.int .i64 x.1, .int .i64 x.2], undef, undef, undef, undef, undef], defers := [] } (W.alloc (.cells #[.int .i64 x.1, .int .i64 x.2] 23))) := hfin _ rfl
    clear hK hfin hb hA
    simp only [encT]
    gi_wp2
    exact HFin.out
  case body =>
    rintro l E x R hp a' W hlD ⟨ov, hA⟩ ⟨Bx, hx1, hx2, rfl⟩
    have hTl : E.length ≤ 16384 := by have := hp.length_eq; simp at this; omega
    obtain ⟨aw, cw, eo⟩ := hA.own.form
    subst eo
    have HA : Hid (ColB stCells 2 23 69 w W2 w.heap.size S (.slice aw E.length cw) E W) := hA
    clear hA
    have xo := HA.out.box.cell 0 _ rfl
    have k_0 : W.cell? ⟨Bx, 0, none⟩ = some (.int .i64 x.1) := hx2.cell 0 _ rfl
    have k_1 : W.cell? ⟨Bx, 1, none⟩ = some (.int .i64 x.2) := hx2.cell 1 _ rfl
    clear hx2
    have hal : Below W.heap.size W (W.alloc (.cells #[.int .i64 x.1, .int .i64 x.2] 23)) := (Below.refl _ _).alloc (Nat.le_refl _) _
    have HAa : Hid (ColB stCells 2 23 69 w W2 w.heap.size S (.slice aw E.length cw) E (W.alloc (.cells #[.int .i64 x.1, .int .i64 x.2] 23))) := HA.out.below hal
    have HKa : Hid (KeepsFrom W2.heap.size W (W.alloc (.cells #[.int .i64 x.1, .int .i64 x.2] 23)) ∧ KpW S W (W.alloc (.cells #[.int .i64 x.1, .int .i64 x.2] 23))) := ⟨keepsFrom_below hal, KpW.below hal (fun j hj => Nat.lt_of_lt_of_le (HA.out.kl j hj) HA.out.size)⟩
    have HNw : Hid (∀ j u, ([.int .i64 x.1, .int .i64 x.2] : List Value)[j]? = some u → (W.alloc (.cells #[.int .i64 x.1, .int .i64 x.2] 23)).cell? ((⟨W.heap.size, 0, none⟩ : Addr).add j) = some u) := fun j u hj => by
      rw [Addr.add_lit, cell_of_row _ _ _ _ _ _ (heap_alloc_new W _)]
      simpa using hj
    have hsz : w.heap.size ≤ (W.alloc (.cells #[.int .i64 x.1, .int .i64 x.2] 23)).heap.size := HAa.out.bel.size
    clear hal
    gi_wp2_with (gi_at_builtin; refine wpListIn_append_own_at _ rfl _ _ 69 rfl w.heap.size 23 i0 (.agg #[.int .i64 0, .int .i64 0]) 2 16 Try.underlying69 hi hz0 hz1 hz2 rfl (by decide) _ _ _ rfl HAa.out.own ⟨W.heap.size, 0, none⟩ 1 1 [.int .i64 x.1, .int .i64 x.2] rfl rfl HNw.out (stCells_one x) (by unfold maxLen; omega) (by omega) hsz ?_; intro v3 w3 hown3 hgrow3 hat3; obtain ⟨g3, c3, e3⟩ : ∃ g c, v3 = .slice (some ⟨g, 0, none⟩) (E.length + 1) c := (ownsRow_succ hown3); subst e3; have HP3 := hide7 (HAa.out.push (by decide) (x := x) hown3 hgrow3 hat3); have xo3 := HP3.out.2.1.cell 0 _ rfl; have xf3 := HP3.out.2.1.free 0; clear hown3 hgrow3 hat3)
    exact ⟨KeepsFrom.trans HKa.out.1 (HP3.out.2.2.1 _), HKa.out.2.trans HP3.out.2.2.2.2.2, _, HP3.out.1⟩
  case done =>
    rintro Dd W E hDd hE ⟨ov, hA⟩ hDf
    have HA : Hid (ColB stCells 2 23 69 w W2 w.heap.size S ov E W) := hA
    have HE : Hid (E.Perm xs) := hE
    have HDf : Hid (W.heap[Dd]? = some (.deferred (some []))) := hDf
    have x1 := hA.box.cell 0 _ rfl
    clear hA hDf hE
    gi_wp2
    refine ⟨by simp, .inl ⟨_, _, rfl, run_takeDeferred HDf.out, ?_⟩⟩
    have hgp : W.grownBy (W.putObj Dd (.deferred none)) (some Dd) := grownBy_putObj' W Dd (.deferred none)
    have hE2 := HA.out.grown hgp (fun r e => by cases e; exact ⟨hDd, _, HDf.out, rfl⟩)
    exact ⟨_, results_tmp rfl _ _ _, ov, E, rfl, HE.out, hE2.own, hE2.bel⟩
theorem colT_any (gf : Nat) (lb : Array Value) (eg : ∀ args w, (callFunc gf args).run Try.prog w = .ok (.enter gf args) w) (S : Nat → Prop) (xs : List (St)) (w : World) (hxl : xs.length ≤ 16384)
    (hS : ∀ k, S k → k < w.heap.size) (hseq : SeqPm 4 Try.prog gf lb encT (KpW S) xs w) :
    Calls Try.prog 38 #[.func (.func gf) #[] lb] w fun e w' => ∃ v' E, e = .returned v' ∧ E.Perm xs ∧ OwnSt w.heap.size w' v' E ∧ Below w.heap.size w w' := by
  go_enter Try.func38, Try.ntmps38
  go_wp2_with fail
  refine (callsIn_wide.1 (appT_in 5 (Nat.le_refl _) gf lb eg S xs w hxl hS hseq)).mono ?_
  rintro e w1 ⟨v1, E, rfl, hE, ho, hb⟩
  have HO : Hid (E.Perm xs ∧ OwnSt w.heap.size w1 v1 E) := ⟨hE, ho⟩
  have HB : Hid (Below w.heap.size w w1) := hb
  obtain ⟨a1, c1, e1⟩ := ho.form
  subst e1
  clear ho hb hE
  go_wp2
  go_ret
  exact ⟨_, E, rfl, HO.out.1, HO.out.2, HB.out⟩

theorem valS_any (v : Value) (w : World) (hf : ∃ a n c, v = .slice a n c) :
    Calls Try.prog 54 #[v] w fun e w' => e = .returned (.func (.func 64) #[] #[.pointer (some ⟨w.heap.size, 0, none⟩)]) ∧ w' = w.alloc (.cells #[v] 72) := by
  obtain ⟨a, n, c, rfl⟩ := hf
  go_enter Try.func54, Try.ntmps54
  go_wp2
  go_ret
  exact ⟨rfl, rfl⟩

theorem keys_any (v : Value) (w : World) (hf : ∃ m, v = .map m) :
    Calls Try.prog 39 #[v] w fun e w' => e = .returned (.func (.func 51) #[] #[.pointer (some ⟨w.heap.size, 0, none⟩)]) ∧ w' = w.alloc (.cells #[v] 62) := by
  obtain ⟨m, rfl⟩ := hf
  go_enter Try.func39, Try.ntmps39
  go_wp2
  go_ret
  exact ⟨rfl, rfl⟩

theorem valA_any (v : Value) (w : World) (hf : ∃ a n c, v = .slice a n c) :
    Calls Try.prog 41 #[v] w fun e w' => e = .returned (.func (.func 55) #[] #[.pointer (some ⟨w.heap.size, 0, none⟩)]) ∧ w' = w.alloc (.cells #[v] 44) := by
  obtain ⟨a, n, c, rfl⟩ := hf
  go_enter Try.func41, Try.ntmps41
  go_wp2
  go_ret
  exact ⟨rfl, rfl⟩

set_option maxRecDepth 100000 in
set_option maxHeartbeats 8000000 in
theorem keys1_in (n : Nat) (hn : 2 ≤ n) (l B1 sb : Nat) (D : List (St × Value)) (J : List (St × Value) → World → Prop) (W : World)
    (hB1 : W.cell? ⟨B1, 0, none⟩ = some (.map (some sb))) (hM : MapIs Prod.fst Prod.snd W sb D) (hJ : AbidesFrom W.heap.size J)
    (hY : ∀ E x R W1, (E ++ x :: R).Perm D → J E W1 → YieldAt Fence.wide (n - 1) Try.prog l (encT x.1) W1 fun e W' => e = .returned (.bool true) ∧ J (E ++ [x]) W' ∧ KpW (fun k => k = sb) W1 W') (h0 : J [] W) :
    CallsIn Fence.wide n Try.prog 51 #[.func (.yield l) #[] #[], .pointer (some ⟨B1, 0, none⟩)] W fun e W' => (∃ v, e = .returned v) ∧ ∃ E, E.Perm D ∧ J E W' := by
  have HJ : Hid (AbidesFrom W.heap.size J) := hJ
  have HY : Hid (∀ E x R W1, (E ++ x :: R).Perm D → J E W1 → YieldAt Fence.wide (n - 1) Try.prog l (encT x.1) W1 fun e W' => e = .returned (.bool true) ∧ J (E ++ [x]) W' ∧ KpW (fun k => k = sb) W1 W') := hY
  obtain ⟨o, hrg, hIt⟩ := range_st _ _ uNames hM
  obtain ⟨W2, eW2⟩ : ∃ X, X = W.alloc o := ⟨_, rfl⟩
  have hb2 : Below W.heap.size W W2 := by rw [eW2]; exact (Below.refl _ _).alloc (Nat.le_refl _) _
  rw [← eW2] at hrg hIt
  have HIt : Hid (IterIs Prod.fst Prod.snd W2 sb W.heap.size D D) := hIt
  have HJ2 : Hid (JP W.heap.size J [] W2) := JP.below ⟨h0, hJ⟩ hb2
  clear hIt hb2 hJ hY hM h0 eW2
  refine callsIn_of_wp Try.func51 rfl trivial ?_ rfl
  simp only [Try.ntmps51, List.size_toArray, List.length_cons, List.length_nil, Nat.reduceAdd, Nat.reduceSub, Array.replicate_succ, Array.replicate_zero, List.push_toArray, List.append_toArray, List.nil_append, List.cons_append]
  gi_wp2
  gi_loopw [7] (fun _ wr => ∃ E R : List (St × Value), Hid (JP W.heap.size J E wr) ∧ Hid (IterIs Prod.fst Prod.snd wr sb W.heap.size D R) ∧ Hid ((E ++ R).Perm D)) (fun _ wr => itLeft wr W.heap.size)
  case atStart => exact ⟨[], D, HJ2, HIt, List.Perm.refl _⟩
  case round =>
    clear HJ2 HIt hrg
    obtain ⟨E, R, HJr, HIr, HPr⟩ := hrel
    rcases next_st HIr.out 0 with ⟨hR, hnx⟩ | ⟨R1, x, R2, w1, hR, hnx, hI1, hg1, hz1, hen⟩
    · have HE : Hid (E.Perm D) := by (have h9 := HPr.out; rw [hR, List.append_nil] at h9; exact h9)
      clear hR
      gi_wp2
      go_end0
      exact ⟨⟨_, rfl⟩, E, HE.out, HJr.out.1⟩
    · have HPx : Hid ((E ++ x :: (R1 ++ R2)).Perm D) := by
        have h9 := HPr.out
        rw [hR] at h9
        exact (List.Perm.append_left E (List.perm_middle.symm)).trans h9
      have HPy : Hid (((E ++ [x]) ++ (R1 ++ R2)).Perm D) := by (have h9 := HPx.out; rw [List.append_assoc]; exact h9)
      have HRl : Hid (R.length = (R1 ++ R2).length + 1) := by (rw [hR]; show _ = _; simp; omega)
      have hnx2 : (Instr.next (.pointer (some ⟨W.heap.size, 0, none⟩)) false 0).run Try.prog wr = .ok (.tuple #[.bool true, .agg #[.int .i64 x.1.1, .int .i64 x.1.2], x.2]) w1 := hnx
      have hen2 : (Instr.entry (.pointer (some ⟨W.heap.size, 0, none⟩))).run Try.prog w1 = .ok (.tuple #[.agg #[.int .i64 x.1.1, .int .i64 x.1.2], x.2]) w1 := hen
      obtain ⟨W4, eW4⟩ : ∃ X, X = w1.alloc (.cells #[.int .i64 x.1.1, .int .i64 x.1.2] 23) := ⟨_, rfl⟩
      have hb4 : Below w1.heap.size w1 W4 := by rw [eW4]; exact (Below.refl _ _).alloc (Nat.le_refl _) _
      have HJ4 : Hid (JP W.heap.size J E W4) := (HJr.out.walk hg1 (Nat.le_refl _) HIr.out.walk).below hb4
      have HI4 : Hid (IterIs Prod.fst Prod.snd W4 sb W.heap.size D (R1 ++ R2)) := hI1.below hb4
      obtain ⟨fn, tmps, assign, body, hy, hRd⟩ := HY.out E x (R1 ++ R2) W4 HPx.out HJ4.out.1
      simp only [encT] at hy
      have hy2 := hy
      rw [eW4] at hy2
      have HLf : Hid (itLeft wr W.heap.size = R.length) := HIr.out.left
      have HeW : Hid (W4 = w1.alloc (.cells #[.int .i64 x.1.1, .int .i64 x.1.2] 23)) := eW4
      clear hy hb4 hI1 hg1 hz1 hR hnx hen eW4 HIr HJr HPr
      gi_wp2
      rw [← HeW.out]
      refine ⟨fun _ => by omega, hRd.mono ?_⟩
      rintro e W3 ⟨rfl, hJ3, hk3⟩
      have HJ3 : Hid (JP W.heap.size J (E ++ [x]) W3) := ⟨hJ3, HJ.out⟩
      have HI3 : Hid (IterIs Prod.fst Prod.snd W3 sb W.heap.size D (R1 ++ R2)) := by
        obtain ⟨o4, ho4, hw4⟩ := HI4.out.walk
        exact HI4.out.keep (hk3.1.2 sb rfl) ((hk3.2 _ o4 ho4 hw4).trans ho4.symm)
      have HL3 : Hid (itLeft W3 W.heap.size = (R1 ++ R2).length) := HI3.out.left
      clear hJ3 hk3 hy2 hRd hnx2 hen2 HeW HI4 HJ4
      gi_wp2
      go_roundw
      case rel => exact ⟨E ++ [x], R1 ++ R2, HJ3, HI3, HPy⟩
      case measure => rw [HLf.out, HL3.out, HRl.out]; exact Nat.lt_succ_self _

theorem keys_seq (n : Nat) (hn : 2 ≤ n) (B1 sb : Nat) (D : List (St × Value)) (w : World) (hB1 : w.cell? ⟨B1, 0, none⟩ = some (.map (some sb))) (hM : MapIs Prod.fst Prod.snd w sb D) (hnd : True) :
    SeqPm n Try.prog 51 #[.pointer (some ⟨B1, 0, none⟩)] (fun x : St × Value => encT x.1) (KpW fun k => k = sb) D w := fun l J W hW hJ hY h0 =>
  keys1_in n hn l B1 sb D J W ((hW.cell (p := ⟨B1, 0, none⟩) (cell_lt hB1)).trans hB1) (hM.keep (hW.block _ hM.lt)) hJ hY h0
/-- The keys alone: where they are apart, what yields the entries yields them. -/
theorem SeqPm.keys {α β : Type} {n : Nat} {P : Program} {gf : Nat} {lb : Array Value} {encs : β → Array Value} {g : α → β} {Kp : World → World → Prop} {D : List α} {w : World} (h : SeqPm n P gf lb (fun x => encs (g x)) Kp D w) : SeqPm n P gf lb encs Kp (D.map g) w := fun l J W hW hJ hY h0 => by
  refine (h l (fun E W => J (E.map g) W) W hW (fun k A B row h1 hg hr => hJ _ A B row h1 hg hr) (fun E x R W1 hp hj => ?_) h0).mono ?_
  · have := hY (E.map g) (g x) (R.map g) W1 (by have := hp.map g; simpa using this) hj
    simpa using this
  · rintro e W' ⟨h1, E, hE, hj⟩
    exact ⟨h1, E.map g, hE.map g, hj⟩

/-- Names as rows of bytes. -/
theorem encStr_tx (x : ByteArray) : encStr (txL x) = .string x := by
  have : (⟨(txL x).toArray⟩ : ByteArray) = x := by unfold txL; simp
  show Value.string ⟨(txL x).toArray⟩ = _
  rw [this]
theorem tx_of (l : List UInt8) : txL ⟨l.toArray⟩ = l := by simp [txL]
theorem flat_nm : ∀ N : List ByteArray, flatE nmCells N = (N.map txL).map encStr
  | [] => rfl
  | a :: l => by rw [flatE_cons, flat_nm l]; simp [nmCells, encStr_tx]
/-- The names in their order. -/
def srtN (N : List ByteArray) : List ByteArray := ((N.map txL).mergeSort fun x y => decide (x ≤ y)).map fun l => ⟨l.toArray⟩
theorem srtN_tx (N : List ByteArray) : (srtN N).map txL = (N.map txL).mergeSort fun x y => decide (x ≤ y) := by
  unfold srtN
  rw [List.map_map]
  exact List.map_id'' (fun l => tx_of l) _
theorem srtN_perm (N : List ByteArray) : (srtN N).Perm N := by
  have h1 : ((N.map txL).mergeSort fun x y => decide (x ≤ y)).Perm (N.map txL) := List.mergeSort_perm _ _
  have h2 := h1.map (fun l : List UInt8 => (⟨l.toArray⟩ : ByteArray))
  rw [List.map_map] at h2
  have h3 : (N.map fun x => (fun l : List UInt8 => (⟨l.toArray⟩ : ByteArray)) (txL x)) = N := List.map_id'' (fun x => tx_ext (tx_of _)) _
  exact h2.trans (by rw [show ((fun l : List UInt8 => (⟨l.toArray⟩ : ByteArray)) ∘ txL) = fun x => (fun l : List UInt8 => (⟨l.toArray⟩ : ByteArray)) (txL x) from rfl, h3])
theorem srtN_pw {N : List ByteArray} (h : N.Nodup) : (srtN N).Pairwise fun a b => ltT a b = true := by
  have hs : ((N.map txL).mergeSort fun x y => decide (x ≤ y)).Pairwise (fun x y => decide (x ≤ y) = true) := List.pairwise_mergeSort (fun a b c h1 h2 => by simp only [decide_eq_true_eq] at *; exact List.le_trans h1 h2) (fun a b => by simp only [Bool.or_eq_true, decide_eq_true_eq]; exact List.le_total a b) _
  rw [← srtN_tx, List.pairwise_map] at hs
  have hn : (srtN N).Pairwise (fun a b => a ≠ b) := (srtN_perm N).nodup_iff.2 h
  refine (hs.and hn).imp ?_
  rintro a b ⟨h1, h2⟩
  unfold ltT
  rw [decide_eq_true_eq] at h1 ⊢
  refine Classical.byContradiction fun h3 => h2 (tx_ext ?_)
  have h4 : txL b ≤ txL a := by exact h3
  exact List.le_antisymm h1 h4
theorem srtN_len (N : List ByteArray) : (srtN N).length = N.length := (srtN_perm N).length_eq
theorem OwnE.len' {α : Type} {enc : α → List Value} {n : Nat} {T : TypeId} {B : Nat} {w : World} {D : List α} {a : Option Addr} {m c : Nat} (h : OwnE enc n T B w (.slice a m c) D) : m = D.length := by
  obtain ⟨a2, c2, e⟩ := h.form
  injection e
set_option maxHeartbeats 2000000 in
/-- A row of names sorted. -/
theorem sortN_any (B : Nat) (v : Value) (N : List ByteArray) (w : World) (h : OwnNm B w v N) (hl : N.length ≤ 16384) :
    Calls Try.prog 63 #[v] w fun e w' => e = .returned (.tuple #[]) ∧ OwnNm B w' v (srtN N) ∧ ∀ A : Nat, (∀ k, v.ownBlock = some k → A ≤ k) → Below A w w' := by
  have h0 : w.ownsRow B 9 1 v (N.map txL).length ((N.map txL).map encStr) := by
    rw [List.length_map, ← flat_nm]
    exact h
  rcases h0.2 with ⟨rfl, hn⟩ | ⟨g, cap, cur, rfl, hbase, hb, h1, h2, h3, h4⟩
  · refine (AnyM.slices_Sort_string_none Try.sortZ none 0 w).mono ?_
    rintro e w' ⟨rfl, rfl⟩
    have hN : N = [] := by
      cases N with
      | nil => rfl
      | cons a l => simp at hn
    subst hN
    exact ⟨rfl, by simpa [srtN] using h, fun A _ => Below.refl _ _⟩
  · have hg : g < w.heap.size := (Array.getElem?_eq_some_iff.1 hb).1
    refine (AnyM.slices_Sort_string Try.sortZ g 0 cap (N.map txL) w (holds_of_block hb (by simpa using h4)) hg (by rw [List.length_map]; omega)).mono ?_
    rintro e w' ⟨rfl, n, os, rfl⟩
    have ho := ownsRow_sorted (n := n) (os := os) (ts := (N.map txL).mergeSort fun x y => decide (x ≤ y)) (by simp) hbase hb h1 h2 h3
    refine ⟨rfl, ?_, fun A hA => (Below.refl A w).grown (grownBy_sorted _) (Nat.le_of_lt (Nat.lt_of_le_of_lt (hA g rfl) hg)) (fun j e => hA j e)⟩
    show World.ownsRow _ B _ 1 _ (srtN N).length (flatE nmCells (srtN N))
    rw [flat_nm, srtN_tx, srtN_len]
    rw [List.length_map] at ho ⊢
    exact ho

set_option maxHeartbeats 2000000 in
theorem sorted_any (B1 c : Nat) (a : Option Addr) (N : List ByteArray) (S : Nat → Prop) (w : World) (hS1 : S B1) (hSl : ∀ k, S k → k < w.heap.size) (hB1 : w.cell? ⟨B1, 0, none⟩ = some (.slice a N.length c)) (hR : LsE nmCells 1 S w (.slice a N.length c) N) (hl : N.length ≤ 16384) :
    Calls Try.prog 53 #[.func (.func 64) #[] #[.pointer (some ⟨B1, 0, none⟩)]] w fun e w' => ∃ v', e = .returned v' ∧ OwnNm w.heap.size w' v' (srtN N) ∧ Below w.heap.size w w' := by
  have HQ : Hid (SeqOf 4 Try.prog 64 #[.pointer (some ⟨B1, 0, none⟩)] encN (KeepsS S) N w) := valsS_seq 4 (by omega) B1 c S a N w hS1 hSl hB1 hR hl
  have HSl : Hid (∀ k, S k → k < w.heap.size) := hSl
  clear hS1 hB1 hR hSl
  go_enter Try.func53, Try.ntmps53
  go_wp2_with fail
  refine (colS_any 64 _ (enters_of Try.func64 (by kernel_rfl) rfl) S N w hl HSl.out HQ.out).mono ?_
  rintro e w1 ⟨v1, rfl, ho, hb⟩
  have HO : Hid (OwnNm w.heap.size w1 v1 N) := ho
  have HB : Hid (Below w.heap.size w w1) := hb
  obtain ⟨a1, c1, e1⟩ := ho.form
  subst e1
  clear ho hb HQ HSl
  go_wp2_with fail
  refine (sortN_any w.heap.size _ N w1 HO.out hl).mono ?_
  rintro e w2 ⟨rfl, ho, hb⟩
  have HB2 : Hid (Below w.heap.size w w2) := HB.out.trans (hb w.heap.size (fun k e => (HO.out.lt k e).1))
  have HO2 : Hid (OwnNm w.heap.size w2 (.slice a1 N.length c1) (srtN N)) := ho
  clear ho hb HO HB
  go_wp2
  go_ret
  exact ⟨_, rfl, HO2.out, HB2.out⟩

end Go.Proofs.Ytoljacnipkibiaa
