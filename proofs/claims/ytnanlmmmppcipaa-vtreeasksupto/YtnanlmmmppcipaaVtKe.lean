/- The program's Parent. -/
import Derived.Test.YtnanlmmmppcipaaVtKd
namespace Go.Proofs.Ytnanlmmmppcipaa
open Go.RowKit Go.Shelf
set_option linter.unusedVariables false
set_option linter.unusedSimpArgs false

attribute [local go_sem] Oper.semAt_some

set_option maxRecDepth 100000 in
set_option maxHeartbeats 8000000 in
theorem parent_in (n0 : Nat) (hn : 5 ≤ n0) (G : Nat → Prop) (t : VT) (key : St) (v : Value) (w : World) (h : VIs G w v t) (hsz : t.sz ≤ 1048576) :
    CallsIn Fence.wide n0 Try.prog 32 #[v, .agg #[.int .i64 key.1, .int .i64 key.2]] w fun e w' => e = .returned (.tuple #[.agg #[.int .i64 (parR [] (flatD t 0) key).1.1, .int .i64 (parR [] (flatD t 0) key).1.2], .bool (parR [] (flatD t 0) key).2]) ∧ Below w.heap.size w w' := by
  have hro : Fence.wide.round = none := rfl
  have h1n : 1 ≤ n0 := by omega
  obtain ⟨aa, ca, ak, ck, e1, fd⟩ := h.form
  subst e1
  clear h
  obtain ⟨i0, hin, hz0, hz1, hz2⟩ := info_parts infoSk9
  refine callsIn_of_wp_marks Try.func32 rfl trivial ?_ hro
  simp only [Try.ntmps32, List.size_toArray, List.length_cons, List.length_nil, Nat.reduceAdd, Nat.reduceSub, Array.replicate_succ, Array.replicate_zero, List.push_toArray, List.append_toArray, List.nil_append, List.cons_append]
  gi_wp2_with fail
  refine ⟨trivial, ?_⟩
  refine (callsIn_wide.2 (nodes_any w.heap.size _)).mono ?_
  rintro e W2 ⟨rfl, hw2⟩
  have hO0 : W2.heap[w.heap.size]? = some (.cells #[.int .i64 t.k.1, .int .i64 t.k.2, .string t.tg, .string t.tx, .slice aa t.at_.length ca, .slice ak t.ks.length ck] 27) := (by rw [hw2]; rw [Below.heap_alloc _ _ _ (by simp <;> omega)]; rw [Below.heap_alloc _ _ _ (by simp <;> omega)]; rw [Below.heap_alloc _ _ _ (by simp <;> omega)]; rw [Below.heap_alloc _ _ _ (by simp <;> omega)]; rw [Below.heap_alloc _ _ _ (by simp <;> omega)]; have h := heap_alloc_new w (.cells #[.int .i64 t.k.1, .int .i64 t.k.2, .string t.tg, .string t.tx, .slice aa t.at_.length ca, .slice ak t.ks.length ck] 27); exact h)
  have hO1 : W2.heap[w.heap.size + 1]? = some (.cells #[.int .i64 key.1, .int .i64 key.2] 23) := (by rw [hw2]; rw [Below.heap_alloc _ _ _ (by simp <;> omega)]; rw [Below.heap_alloc _ _ _ (by simp <;> omega)]; rw [Below.heap_alloc _ _ _ (by simp <;> omega)]; rw [Below.heap_alloc _ _ _ (by simp <;> omega)]; have h := heap_alloc_new (w.alloc (.cells #[.int .i64 t.k.1, .int .i64 t.k.2, .string t.tg, .string t.tx, .slice aa t.at_.length ca, .slice ak t.ks.length ck] 27)) (.cells #[.int .i64 key.1, .int .i64 key.2] 23); rw [show (w.alloc (.cells #[.int .i64 t.k.1, .int .i64 t.k.2, .string t.tg, .string t.tx, .slice aa t.at_.length ca, .slice ak t.ks.length ck] 27)).heap.size = w.heap.size + 1 by simp] at h; exact h)
  have hO2 : W2.heap[w.heap.size + 2]? = some (.cells #[.int .i64 0, .int .i64 0] 23) := (by rw [hw2]; rw [Below.heap_alloc _ _ _ (by simp <;> omega)]; rw [Below.heap_alloc _ _ _ (by simp <;> omega)]; rw [Below.heap_alloc _ _ _ (by simp <;> omega)]; have h := heap_alloc_new ((w.alloc (.cells #[.int .i64 t.k.1, .int .i64 t.k.2, .string t.tg, .string t.tx, .slice aa t.at_.length ca, .slice ak t.ks.length ck] 27)).alloc (.cells #[.int .i64 key.1, .int .i64 key.2] 23)) (.cells #[.int .i64 0, .int .i64 0] 23); rw [show ((w.alloc (.cells #[.int .i64 t.k.1, .int .i64 t.k.2, .string t.tg, .string t.tx, .slice aa t.at_.length ca, .slice ak t.ks.length ck] 27)).alloc (.cells #[.int .i64 key.1, .int .i64 key.2] 23)).heap.size = w.heap.size + 2 by simp] at h; exact h)
  have hO3 : W2.heap[w.heap.size + 3]? = some (.cells #[.bool false] 4) := (by rw [hw2]; rw [Below.heap_alloc _ _ _ (by simp <;> omega)]; rw [Below.heap_alloc _ _ _ (by simp <;> omega)]; have h := heap_alloc_new (((w.alloc (.cells #[.int .i64 t.k.1, .int .i64 t.k.2, .string t.tg, .string t.tx, .slice aa t.at_.length ca, .slice ak t.ks.length ck] 27)).alloc (.cells #[.int .i64 key.1, .int .i64 key.2] 23)).alloc (.cells #[.int .i64 0, .int .i64 0] 23)) (.cells #[.bool false] 4); rw [show (((w.alloc (.cells #[.int .i64 t.k.1, .int .i64 t.k.2, .string t.tg, .string t.tx, .slice aa t.at_.length ca, .slice ak t.ks.length ck] 27)).alloc (.cells #[.int .i64 key.1, .int .i64 key.2] 23)).alloc (.cells #[.int .i64 0, .int .i64 0] 23)).heap.size = w.heap.size + 3 by simp] at h; exact h)
  have hO4 : W2.heap[w.heap.size + 4]? = some (.cells #[.slice none 0 0] 49) := (by rw [hw2]; rw [Below.heap_alloc _ _ _ (by simp <;> omega)]; have h := heap_alloc_new ((((w.alloc (.cells #[.int .i64 t.k.1, .int .i64 t.k.2, .string t.tg, .string t.tx, .slice aa t.at_.length ca, .slice ak t.ks.length ck] 27)).alloc (.cells #[.int .i64 key.1, .int .i64 key.2] 23)).alloc (.cells #[.int .i64 0, .int .i64 0] 23)).alloc (.cells #[.bool false] 4)) (.cells #[.slice none 0 0] 49); rw [show ((((w.alloc (.cells #[.int .i64 t.k.1, .int .i64 t.k.2, .string t.tg, .string t.tx, .slice aa t.at_.length ca, .slice ak t.ks.length ck] 27)).alloc (.cells #[.int .i64 key.1, .int .i64 key.2] 23)).alloc (.cells #[.int .i64 0, .int .i64 0] 23)).alloc (.cells #[.bool false] 4)).heap.size = w.heap.size + 4 by simp] at h; exact h)
  have hO5 : W2.heap[w.heap.size + 5]? = some (.cells #[.pointer (some ⟨w.heap.size, 0, none⟩)] 66) := (by rw [hw2]; have h := heap_alloc_new (((((w.alloc (.cells #[.int .i64 t.k.1, .int .i64 t.k.2, .string t.tg, .string t.tx, .slice aa t.at_.length ca, .slice ak t.ks.length ck] 27)).alloc (.cells #[.int .i64 key.1, .int .i64 key.2] 23)).alloc (.cells #[.int .i64 0, .int .i64 0] 23)).alloc (.cells #[.bool false] 4)).alloc (.cells #[.slice none 0 0] 49)) (.cells #[.pointer (some ⟨w.heap.size, 0, none⟩)] 66); rw [show (((((w.alloc (.cells #[.int .i64 t.k.1, .int .i64 t.k.2, .string t.tg, .string t.tx, .slice aa t.at_.length ca, .slice ak t.ks.length ck] 27)).alloc (.cells #[.int .i64 key.1, .int .i64 key.2] 23)).alloc (.cells #[.int .i64 0, .int .i64 0] 23)).alloc (.cells #[.bool false] 4)).alloc (.cells #[.slice none 0 0] 49)).heap.size = w.heap.size + 5 by simp] at h; exact h)
  have hb2 : Below w.heap.size w W2 := (by rw [hw2]; exact ((((((Below.refl _ _).alloc (Nat.le_refl _) _).alloc (by simp <;> omega) _).alloc (by simp <;> omega) _).alloc (by simp <;> omega) _).alloc (by simp <;> omega) _).alloc (by simp <;> omega) _)
  have hs2 : W2.heap.size = w.heap.size + 6 := (by rw [hw2]; simp)
  have eB : (((((w.alloc (.cells #[.int .i64 t.k.1, .int .i64 t.k.2, .string t.tg, .string t.tx, .slice aa t.at_.length ca, .slice ak t.ks.length ck] 27)).alloc (.cells #[.int .i64 key.1, .int .i64 key.2] 23)).alloc (.cells #[.int .i64 0, .int .i64 0] 23)).alloc (.cells #[.bool false] 4)).alloc (.cells #[.slice none 0 0] 49)).heap.size = w.heap.size + 5 := by simp
  rw [eB]
  clear eB hw2
  obtain ⟨kb, ekb⟩ : ∃ b, b = w.heap.size + 1 := ⟨_, rfl⟩
  obtain ⟨rb, erb⟩ : ∃ b, b = w.heap.size + 2 := ⟨_, rfl⟩
  obtain ⟨ob, eob⟩ : ∃ b, b = w.heap.size + 3 := ⟨_, rfl⟩
  obtain ⟨ab, eab⟩ : ∃ b, b = w.heap.size + 4 := ⟨_, rfl⟩
  obtain ⟨pb, epb⟩ : ∃ b, b = w.heap.size + 5 := ⟨_, rfl⟩
  rw [← ekb] at hO1
  rw [← erb] at hO2
  rw [← eob] at hO3
  rw [← eab] at hO4
  rw [← epb] at hO5
  rw [← epb]
  obtain ⟨S, eS⟩ : ∃ S : Nat → Prop, S = fun k => k < W2.heap.size ∧ k ≠ rb ∧ k ≠ ob ∧ k ≠ ab := ⟨_, rfl⟩
  have hSl : ∀ k, S k → k < W2.heap.size := fun k q => by (rw [eS] at q; exact q.1)
  have hS0 : ∀ k, k < w.heap.size → S k := fun k q => by (rw [eS]; exact ⟨by omega, by omega, by omega, by omega⟩)
  have hST : S w.heap.size := by (rw [eS]; exact ⟨by omega, by omega, by omega, by omega⟩)
  have hSk : S kb := by (rw [eS]; exact ⟨by omega, by omega, by omega, by omega⟩)
  have hnr : ¬ S rb := fun q => by (rw [eS] at q; exact q.2.1 rfl)
  have hno : ¬ S ob := fun q => by (rw [eS] at q; exact q.2.2.1 rfl)
  have hna : ¬ S ab := fun q => by (rw [eS] at q; exact q.2.2.2 rfl)
  have hva := VAt.boxed fd hb2 hO0 hS0
  have HSq := nodes_seq (n0 - 1) S W2.heap.size pb w.heap.size t W2 hSl (Nat.le_refl _) (by rw [cell_of_row _ _ _ _ _ _ hO5]; rfl) hva hST (by omega)
  have HA0 : PaB w W2 S rb ob ab #[.int .i64 0, .int .i64 0] false (.slice none 0 0) ([]) W2 W2 := ⟨hO2, hO3, hO4, OwnE.nil0 _ _, hb2, KeepsS.refl _ _, KeepsFrom.refl _ _, ⟨Nat.le_refl _, fun _ _ => rfl⟩, hSl, ⟨hnr, by omega, by omega⟩, ⟨hno, by omega, by omega⟩, ⟨hna, by omega, by omega⟩, ⟨by omega, by omega, by omega⟩, by omega⟩
  have HK2 : Hid (S kb ∧ W2.cell? ⟨kb, 0, none⟩ = some (.int .i64 key.1) ∧ W2.cell? ⟨kb, 1, none⟩ = some (.int .i64 key.2)) := ⟨hSk, by rw [cell_of_row _ _ _ _ _ _ hO1]; rfl, by rw [cell_of_row _ _ _ _ _ _ hO1]; rfl⟩
  obtain ⟨xs, exs⟩ : ∃ xs, xs = flatA W2 t 0 w.heap.size 0 := ⟨_, rfl⟩
  rw [← exs] at HSq
  have hxp : xs.map Nd.p = flatD t 0 := (by rw [exs]; exact flatA_p _ _ _ _ _)
  have hxl : xs.length = t.sz := (by rw [exs]; exact flatA_len _ _ _ _ _)
  have hxd : ∀ x ∈ xs, x.d ≤ t.sz := fun x hx => (by have h9 := flatA_d W2 t 0 w.heap.size 0 x (by rw [← exs]; exact hx); omega)
  have HXd := hide9 hxd
  have HXp := hide9 hxp
  have HXl := hide9 hxl
  have HPr : Hid (PreD 0 (xs.map Nd.p)) := (by rw [hxp]; exact preD t)
  have HAt : Hid (∀ x ∈ xs, VAt S W2 x.t x.b x.o ∧ S x.b) := (by rw [exs]; exact flatA_at hva hST)
  clear hxp hxl hxd exs eS hS0 hST hSk hva fd hO0 hO1 hO2 hO3 hO4 hO5 hb2 hs2 epb hnr hno hna
  gi_wp2
  (try rw [show w.heap.size + 1 + 1 + 1 + 1 = ab by omega])
  (try rw [show w.heap.size + 1 + 1 + 1 = ob by omega])
  (try rw [show w.heap.size + 1 + 1 = rb by omega])
  (try rw [← eab])
  (try rw [← eob])
  (try rw [← erb])
  (try rw [← ekb])
  clear ekb erb eob eab
  refine range_of h1n (gf := 58) (lb := #[.pointer (some ⟨pb, 0, none⟩)]) rfl (enters_of Try.func58 (by kernel_rfl) rfl) HSq KpN.trans (fun W l o o' hl ho hc _ => KpN.obj hl hSl ho hc) (Below.refl _ _) (fun _ => rfl)
    (fun k W => ∃ v D, PaB w W2 S rb ob ab #[.int .i64 0, .int .i64 0] false (v) (D) W W ∧ parR [] (xs.map Nd.p) key = parR D ((xs.drop k).map Nd.p) key ∧ PreD D.length ((xs.drop k).map Nd.p)) (fun c k W => c = .ret ∧ ∃ v D, PaB w W2 S rb ob ab #[.int .i64 (parR [] (xs.map Nd.p) key).1.1, .int .i64 (parR [] (xs.map Nd.p) key).1.2] (parR [] (xs.map Nd.p) key).2 (v) (D) W W)
    (fun k A B row ⟨v, D, h1, h2⟩ hg hr => ⟨v, D, h1.grown hg hr, h2⟩) (fun c k A B row hf hg hr => ⟨hf.1, by obtain ⟨v, D, q⟩ := hf.2; exact ⟨v, D, q.grown hg hr⟩⟩) ⟨_, [], HA0, rfl, HPr.out⟩
    (fun x a' W => a' = { tmps := #[.agg #[.int .i64 t.k.1, .int .i64 t.k.2, .string t.tg, .string t.tx, .slice aa t.at_.length ca, .slice ak t.ks.length ck], .agg #[.int .i64 key.1, .int .i64 key.2], .pointer (some ⟨w.heap.size, 0, none⟩), .pointer (some ⟨kb, 0, none⟩), .pointer (some ⟨rb, 0, none⟩), .pointer (some ⟨ob, 0, none⟩), .pointer (some ⟨ab, 0, none⟩), .int .i64 (x.d : Int), .pointer (some ⟨x.b, x.o, none⟩), .func (.func 58) #[] #[.pointer (some ⟨pb, 0, none⟩)], .int .i64 (x.d : Int), .pointer (some ⟨x.b, x.o, none⟩), undef, undef, undef, undef, undef, undef, undef, undef, undef, undef, undef, undef, undef, undef, undef, undef, undef, undef, undef, undef, undef], defers := [] }) (fun x a' u A B row h5 _ _ => h5) ?assign ?body ?done ?stop
  clear HA0 HPr
  case assign =>
    rintro l k hk W K ⟨v, D, hA, hB⟩ hK
    have hfin := hK _ W (KeepsFrom.refl _ _) (KpN.of_below (Below.refl _ _) (fun j q => Nat.lt_of_lt_of_le (hA.sl j q) hA.kp.1)) ⟨v, D, hA, hB⟩ rfl
    have HFin := hide9 hfin
    clear hK hfin hA hB
    generalize xs[k] = x at *
    simp only [encN] at *
    gi_wp2
    first | exact HFin.out | (simp; exact HFin.out)
  case body =>
    rintro l k hk a' W hlD ⟨v, D, hrn, hpa, hpr⟩ rfl
    obtain ⟨hxv, hxS⟩ := HAt.out xs[k] (List.getElem_mem hk)
    have hxd := HXd.out xs[k] (List.getElem_mem hk)
    have hdr : (xs.drop k).map Nd.p = xs[k].p :: (xs.drop (k + 1)).map Nd.p := (by rw [List.drop_eq_getElem_cons hk]; rfl)
    rw [hdr] at hpa hpr
    obtain ⟨hdl, hpe⟩ := hpr
    rw [parR] at hpa
    obtain ⟨x, ex⟩ : ∃ x, x = xs[k] := ⟨_, rfl⟩
    rw [← ex] at hxv hxS hxd hpa hdl hpe ⊢
    have hdl2 : x.d ≤ D.length := hdl
    have hown : ∃ sa sc c0, v = .slice sa D.length c0 ∧ sc = c0 ∧ OwnSt W2.heap.size W (.slice sa x.d sc) (D.take x.d) ∧ x.d ≤ c0 ∧ (sa = none → x.d = 0 ∧ D.length = 0 ∧ c0 = 0) := (by
      rcases hrn.ow.2 with ⟨e9, hn⟩ | ⟨g, cap, cur, e9, hg9, hc9, hcap, rest⟩
      · have hD0 : D = [] := List.eq_nil_of_length_eq_zero hn
        have hx0 : x.d = 0 := (by omega)
        refine ⟨none, 0, 0, by rw [e9, hn], rfl, ?_, by omega, fun _ => ⟨hx0, hn, rfl⟩⟩
        rw [hx0, hD0]
        exact OwnE.nil0 _ _
      · exact ⟨some ⟨g, 0, none⟩, cap, cap, e9, rfl, OwnE.cutn stCells_len (by have := hrn.ow; rw [e9] at this; exact this) hdl2, by omega, fun h => by cases h⟩)
    obtain ⟨sa, sc, c0, ev, esc, hO, hcp, hnn⟩ := hown
    subst esc ev
    have HPx : Hid (parR [] (xs.map Nd.p) key = if x.t.k = key then lastS (D.take x.d) else parR (D.take x.d ++ [x.t.k]) ((xs.drop (k + 1)).map Nd.p) key) := hpa
    have HPe : Hid (PreD (x.d + 1) ((xs.drop (k + 1)).map Nd.p)) := hpe
    have HC0 : Hid (PaB w W2 S rb ob ab #[.int .i64 0, .int .i64 0] false (.slice sa D.length sc) (D) W W) := hrn
    have HC1 : Hid (PaB w W2 S rb ob ab #[.int .i64 0, .int .i64 0] false (.slice sa x.d sc) (D.take x.d) W (W.setCell ⟨ab, 0, none⟩ (.slice sa x.d sc))) := hrn.seta hO
    have HEl : Hid ((D.take x.d).length = x.d) := (by show _ = _; rw [List.length_take]; omega)
    obtain ⟨E, eE⟩ : ∃ E, E = D.take x.d := ⟨_, rfl⟩
    rw [← eE] at HPx HC1 HEl
    have HXv : Hid (VAt S W2 x.t x.b x.o ∧ S x.b) := ⟨hxv, hxS⟩
    obtain ⟨_, _, _, _, kc0, kc1, _⟩ := hxv.cells
    have HX2 : Hid (W2.cell? ⟨x.b, x.o, none⟩ = some (.int .i64 x.t.k.1) ∧ W2.cell? ⟨x.b, x.o + 1, none⟩ = some (.int .i64 x.t.k.2)) := ⟨kc0, kc1⟩
    have q0 := hrn.ca
    have q1 := hrn.fa
    have d0 : (0 : Int) ≤ (x.d : Int) := by omega
    have d1 : (x.d : Int) ≤ (sc : Int) := by omega
    have Hnn := hide9 hnn
    have HD1 : Hid (x.d ≤ D.length) := hdl2
    clear hxv hxS hdr hpa hpe hdl hdl2 ex kc0 kc1 hrn hO eE hnn
    gi_wp2
    clear q0 q1 HC0
    obtain ⟨W9, eW9⟩ : ∃ X, X = W.setCell ⟨ab, 0, none⟩ (.slice sa x.d sc) := ⟨_, rfl⟩
    rw [← eW9] at HC1 ⊢
    clear eW9
    have HC := HC1
    clear HC1
    refine region_round_held (S := fun W' => 0 ≤ W'.heap.size) l (by kernel_rfl) (by kernel_rfl) (lets_then (lets_then (lets_block lets_round))) (Nat.zero_le _) (fun hHeld => ?_)
    obtain ⟨Uk1u0, eW⟩ : ∃ X, X = W9.drew := ⟨_, rfl⟩
    have hb : Below W9.heap.size W9 Uk1u0 := by rw [eW]; exact (Below.refl _ _).drew
    replace HC : Hid (PaB w W2 S rb ob ab #[.int .i64 0, .int .i64 0] false (.slice sa x.d sc) (E) W Uk1u0) := HC.out.below hb
    rw [← eW] at hHeld ⊢
    clear eW hb
    refine tkW 0 (some 15) (v := ?_) ?_ hHeld ?_
    rotate_left
    · (intro ww _; go_simp; try with_reducible rfl)
    refine tkW 1 (some 16) (v := ?_) ?_ hHeld ?_
    rotate_left
    · (intro ww hSw; (try dsimp only at hSw); go_simp; try with_reducible rfl)
    refine tkW 2 (some 17) (v := ?_) ?_ hHeld ?_
    rotate_left
    · (intro ww _; go_simp; try with_reducible rfl)
    refine wpAnyH_ready (rs := [3, 4]) (by kernel_rfl) (by simp) ?_
    refine AllReadyH.cons (o := ⟨some 18, _, _, _, _, _⟩) rfl (fun K hK => ?_) (AllReadyH.cons (o := ⟨some 19, _, _, _, _, _⟩) rfl (fun K hK => ?_) AllReadyH.nil)
    · have q0 : Uk1u0.cell? ⟨x.b, x.o, none⟩ = some (.int .i64 x.t.k.1) := (HC.out.kp.cell (p := ⟨x.b, x.o, none⟩) HXv.out.2).trans HX2.out.1
      have q1 : Uk1u0.cell? ⟨x.b, x.o + 1, none⟩ = some (.int .i64 x.t.k.2) := (HC.out.kp.cell (p := ⟨x.b, x.o + 1, none⟩) HXv.out.2).trans HX2.out.2
      go_simp
      refine hK.out _ _ (Nat.zero_le _) (fun hHeld2 => ?_)
      clear hK K hHeld
      have hHeld := hHeld2
      clear hHeld2
      (try simp only [Act.put, List.setIfInBounds_toArray, List.set_cons_zero, List.set_cons_succ])
      clear q0 q1
      refine wpAnyH_ready (rs := [4]) (by kernel_rfl) (by simp) ?_
      refine AllReadyH.cons (o := ⟨some 19, _, _, _, _, _⟩) rfl (fun K hK => ?_) AllReadyH.nil
      have q0 : Uk1u0.cell? ⟨kb, 0, none⟩ = some (.int .i64 key.1) := (HC.out.kp.cell (p := ⟨kb, 0, none⟩) HK2.out.1).trans HK2.out.2.1
      have q1 : Uk1u0.cell? ⟨kb, 1, none⟩ = some (.int .i64 key.2) := (HC.out.kp.cell (p := ⟨kb, 1, none⟩) HK2.out.1).trans HK2.out.2.2
      go_simp
      refine hK.out _ _ (Nat.zero_le _) (fun hHeld2 => ?_)
      clear hK K hHeld
      have hHeld := hHeld2
      clear hHeld2
      (try simp only [Act.put, List.setIfInBounds_toArray, List.set_cons_zero, List.set_cons_succ])
      clear q0 q1
      refine tkW 5 (some 20) (v := .bool (decide ((x.t.k.1, x.t.k.2) = (key.1, key.2)))) ?_ hHeld ?_
      · (intro ww hSw; (try dsimp only at hSw); go_simp; by_cases e1 : x.t.k.1 = key.1 <;> by_cases e2 : x.t.k.2 = key.2 <;> simp [e1, e2])
      refine wpAnyH_done (by kernel_rfl) ?_ _
      clear hHeld
      obtain ⟨V, eV⟩ : ∃ X, X = Uk1u0 := ⟨_, rfl⟩
      rw [← eV] at HC ⊢
      clear eV
      by_cases hky : x.t.k = key
      · have HRs : Hid (parR [] (xs.map Nd.p) key = lastS E) := HPx.out.trans (if_pos hky)
        have q8 : decide ((x.t.k.1, x.t.k.2) = (key.1, key.2)) = true := decide_eq_true hky
        rw [q8]
        clear hky q8
        have q0 := HC.out.ca
        gi_wp2_with fail
        clear q0
        refine ⟨trivial, fun h => (by cases h), ?_⟩
        refine (CallsIn.inRound l (callsIn_wide.2 (last_any _ _ E _ HC.out.ow (by rw [HEl.out]; omega)))).mono ?_
        rintro e V2 ⟨rfl, hb⟩
        have HC2 : Hid (PaB w W2 S rb ob ab #[.int .i64 0, .int .i64 0] false (.slice sa x.d sc) (E) W V2) := HC.out.below hb
        rw [← HRs.out]
        clear hb HC
        have z0 := HC2.out.co
        have z1 := HC2.out.fo
        have z2 := HC2.out.fr
        have y0 : V2.cell? ⟨rb, 0, none⟩ = some (.int .i64 0) := (by rw [cell_of_row _ _ _ _ _ _ HC2.out.r]; rfl)
        have y1 : V2.cell? ⟨rb, 1, none⟩ = some (.int .i64 0) := (by rw [cell_of_row _ _ _ _ _ _ HC2.out.r]; rfl)
        obtain ⟨hne1, _, _⟩ := HC2.out.ne
        have hne2 : ob ≠ rb := fun e => hne1 e.symm
        gi_wp2
        obtain ⟨h8, h9⟩ := HC2.out.told (parR [] (xs.map Nd.p) key).2 rfl
        exact ⟨h8.kf, rfl, _, E, h8.start⟩
      · have q8 : decide ((x.t.k.1, x.t.k.2) = (key.1, key.2)) = false := decide_eq_false hky
        have HQn : Hid (parR [] (xs.map Nd.p) key = parR (E ++ [x.t.k]) ((xs.drop (k + 1)).map Nd.p) key ∧ PreD (x.d + 1) ((xs.drop (k + 1)).map Nd.p)) := ⟨HPx.out.trans (if_neg hky), HPe.out⟩
        rw [q8]
        clear hky q8 HPx HPe
        gi_wp2
        refine region_round_held (S := fun W' => 0 ≤ W'.heap.size) l (by kernel_rfl) (by kernel_rfl) (lets_block lets_round) (Nat.zero_le _) (fun hHeld => ?_)
        obtain ⟨Um2u0, eW⟩ : ∃ X, X = V.drew := ⟨_, rfl⟩
        have hb : Below V.heap.size V Um2u0 := by rw [eW]; exact (Below.refl _ _).drew
        replace HC : Hid (PaB w W2 S rb ob ab #[.int .i64 0, .int .i64 0] false (.slice sa x.d sc) (E) W Um2u0) := HC.out.below hb
        rw [← eW] at hHeld ⊢
        clear eW hb
        refine tkW 1 (some 26) (v := ?_) ?_ hHeld ?_
        rotate_left
        · (intro ww _; go_simp; try with_reducible rfl)
        refine tkW 2 (some 27) (v := ?_) ?_ hHeld ?_
        rotate_left
        · (intro ww hSw; (try dsimp only at hSw); go_simp; try with_reducible rfl)
        refine tkW 3 (some 28) (v := ?_) ?_ hHeld ?_
        rotate_left
        · (intro ww _; go_simp; try with_reducible rfl)
        refine wpAnyH_ready (rs := [0, 4]) (by kernel_rfl) (by simp) ?_
        refine AllReadyH.cons (o := ⟨some 25, _, _, _, _, _⟩) rfl (fun K hK => ?_) (AllReadyH.cons (o := ⟨some 29, _, _, _, _, _⟩) rfl (fun K hK => ?_) AllReadyH.nil)
        · have q0 := HC.out.ca
          go_simp
          refine hK.out _ _ (Nat.zero_le _) (fun hHeld2 => ?_)
          clear hK K hHeld
          have hHeld := hHeld2
          clear hHeld2
          (try simp only [Act.put, List.setIfInBounds_toArray, List.set_cons_zero, List.set_cons_succ])
          clear q0
          refine wpAnyH_ready (rs := [4]) (by kernel_rfl) (by simp) ?_
          refine AllReadyH.cons (o := ⟨some 29, _, _, _, _, _⟩) rfl (fun K hK => ?_) AllReadyH.nil
          have q0 : Um2u0.cell? ⟨x.b, x.o, none⟩ = some (.int .i64 x.t.k.1) := (HC.out.kp.cell (p := ⟨x.b, x.o, none⟩) HXv.out.2).trans HX2.out.1
          have q1 : Um2u0.cell? ⟨x.b, x.o + 1, none⟩ = some (.int .i64 x.t.k.2) := (HC.out.kp.cell (p := ⟨x.b, x.o + 1, none⟩) HXv.out.2).trans HX2.out.2
          go_simp
          refine hK.out _ _ (Nat.zero_le _) (fun hHeld2 => ?_)
          clear hK K hHeld
          have hHeld := hHeld2
          clear hHeld2
          (try simp only [Act.put, List.setIfInBounds_toArray, List.set_cons_zero, List.set_cons_succ])
          clear q0 q1
          refine wpAnyH_ready (rs := [5]) (by kernel_rfl) (by simp) ?_
          refine AllReadyH.cons (o := ⟨some 30, _, _, _, _, _⟩) rfl (fun K hK => ?_) AllReadyH.nil
          have hbx : Below Um2u0.heap.size Um2u0 (Um2u0.alloc (.cells #[.int .i64 x.t.k.1, .int .i64 x.t.k.2] 23)) := (Below.refl _ _).alloc (Nat.le_refl _) _
          go_simp
          refine hK.out _ _ (Nat.zero_le _) (fun hHeld2 => ?_)
          clear hK K hHeld
          have hHeld := hHeld2
          clear hHeld2
          (try simp only [Act.put, List.setIfInBounds_toArray, List.set_cons_zero, List.set_cons_succ])
          obtain ⟨Um2u3, eW⟩ : ∃ X, X = Um2u0.alloc (.cells #[.int .i64 x.t.k.1, .int .i64 x.t.k.2] 23) := ⟨_, rfl⟩
          have hb : Below Um2u0.heap.size Um2u0 Um2u3 := by rw [eW]; exact (Below.refl _ _).alloc (Nat.le_refl _) _
          replace HC : Hid (PaB w W2 S rb ob ab #[.int .i64 0, .int .i64 0] false (.slice sa x.d sc) (E) W Um2u3) := HC.out.below hb
          clear hbx
          have HVb : Hid (Um2u3.heap[Um2u0.heap.size]? = some (.cells #[.int .i64 x.t.k.1, .int .i64 x.t.k.2] 23)) := by rw [eW]; exact heap_alloc_new _ _
          rw [← eW] at hHeld ⊢
          clear eW
          obtain ⟨vb, evb⟩ : ∃ b, b = Um2u0.heap.size := ⟨_, rfl⟩
          rw [← evb] at HVb ⊢
          clear evb
          clear hb
          refine wpAnyH_ready (rs := [6]) (by kernel_rfl) (by simp) ?_
          refine AllReadyH.cons (o := ⟨some 31, _, _, _, _, _⟩) rfl (fun K hK => ?_) AllReadyH.nil
          refine step_append_lies _ (by rfl) _ _ 49 (by rfl) W2.heap.size 23 i0 (.agg #[.int .i64 0, .int .i64 0]) 2 16 Try.underlying49 hin hz0 hz1 hz2 rfl (by decide) (.slice sa x.d sc) x.d (flatE stCells E) (by rfl) (by have h9 : Um2u3.ownsRow W2.heap.size 23 2 (.slice sa x.d sc) E.length (flatE stCells E) := HC.out.ow; rw [HEl.out] at h9; exact h9) ⟨vb, 0, none⟩ 1 1 (stCells x.t.k) (by rfl) rfl (World.news_of_block HVb.out) (fun y hy => by simp [stCells] at hy; rcases hy with rfl | rfl <;> rfl) (by decide) (by unfold maxLen; omega) (by omega) (by have := HC.out.kp.1; exact this) Um2u3.heap.size rfl ?_
          intro g3 c3 Um2u4 hown3 hgrow3 hat3 hlt3
          have HO3 : Hid (OwnSt W2.heap.size Um2u4 (.slice (some ⟨g3, 0, none⟩) (x.d + 1) c3) (E ++ [x.t.k])) := OwnE.snoc rfl (by rw [HEl.out]; exact hown3)
          have HC3 : Hid (PaB w W2 S rb ob ab #[.int .i64 0, .int .i64 0] false (.slice (some ⟨g3, 0, none⟩) (x.d + 1) c3) (E ++ [x.t.k]) W (Um2u4.setCell ⟨ab, 0, none⟩ (.slice (some ⟨g3, 0, none⟩) (x.d + 1) c3))) := HC.out.row hgrow3 HO3.out
          have HR3 := hide9 (HC.out.rowa hgrow3)
          clear hown3 hgrow3 hat3 hlt3
          refine hK.out _ _ (Nat.zero_le _) (fun hHeld2 => ?_)
          clear hK K hHeld
          have hHeld := hHeld2
          clear hHeld2
          (try simp only [Act.put, List.setIfInBounds_toArray, List.set_cons_zero, List.set_cons_succ])
          clear HC HVb HO3
          refine wpAnyH_ready (rs := [7]) (by kernel_rfl) (by simp) ?_
          refine AllReadyH.cons (o := ⟨none, _, _, _, _, _⟩) rfl (fun K hK => ?_) AllReadyH.nil
          obtain ⟨q0, q1⟩ := HR3.out
          go_simp
          refine hK.out _ _ (Nat.zero_le _) (fun hHeld2 => ?_)
          clear hK K hHeld
          have hHeld := hHeld2
          clear hHeld2
          (try simp only [Act.put, List.setIfInBounds_toArray, List.set_cons_zero, List.set_cons_succ])
          clear q0 q1 HR3
          refine wpAnyH_done (by kernel_rfl) ?_ _
          clear hHeld
          gi_wp2
          refine ⟨HC3.out.kf, HC3.out.kn, _, _, HC3.out.start, HQn.out.1, ?_⟩
          have h9 := HQn.out.2
          rw [show (E ++ [x.t.k]).length = x.d + 1 by rw [List.length_append, HEl.out]; rfl]
          exact h9
        · have q0 : Um2u0.cell? ⟨x.b, x.o, none⟩ = some (.int .i64 x.t.k.1) := (HC.out.kp.cell (p := ⟨x.b, x.o, none⟩) HXv.out.2).trans HX2.out.1
          have q1 : Um2u0.cell? ⟨x.b, x.o + 1, none⟩ = some (.int .i64 x.t.k.2) := (HC.out.kp.cell (p := ⟨x.b, x.o + 1, none⟩) HXv.out.2).trans HX2.out.2
          go_simp
          refine hK.out _ _ (Nat.zero_le _) (fun hHeld2 => ?_)
          clear hK K hHeld
          have hHeld := hHeld2
          clear hHeld2
          (try simp only [Act.put, List.setIfInBounds_toArray, List.set_cons_zero, List.set_cons_succ])
          clear q0 q1
          refine wpAnyH_ready (rs := [0, 5]) (by kernel_rfl) (by simp) ?_
          refine AllReadyH.cons (o := ⟨some 25, _, _, _, _, _⟩) rfl (fun K hK => ?_) (AllReadyH.cons (o := ⟨some 30, _, _, _, _, _⟩) rfl (fun K hK => ?_) AllReadyH.nil)
          · have q0 := HC.out.ca
            go_simp
            refine hK.out _ _ (Nat.zero_le _) (fun hHeld2 => ?_)
            clear hK K hHeld
            have hHeld := hHeld2
            clear hHeld2
            (try simp only [Act.put, List.setIfInBounds_toArray, List.set_cons_zero, List.set_cons_succ])
            clear q0
            refine wpAnyH_ready (rs := [5]) (by kernel_rfl) (by simp) ?_
            refine AllReadyH.cons (o := ⟨some 30, _, _, _, _, _⟩) rfl (fun K hK => ?_) AllReadyH.nil
            have hbx : Below Um2u0.heap.size Um2u0 (Um2u0.alloc (.cells #[.int .i64 x.t.k.1, .int .i64 x.t.k.2] 23)) := (Below.refl _ _).alloc (Nat.le_refl _) _
            go_simp
            refine hK.out _ _ (Nat.zero_le _) (fun hHeld2 => ?_)
            clear hK K hHeld
            have hHeld := hHeld2
            clear hHeld2
            (try simp only [Act.put, List.setIfInBounds_toArray, List.set_cons_zero, List.set_cons_succ])
            obtain ⟨Um2u8, eW⟩ : ∃ X, X = Um2u0.alloc (.cells #[.int .i64 x.t.k.1, .int .i64 x.t.k.2] 23) := ⟨_, rfl⟩
            have hb : Below Um2u0.heap.size Um2u0 Um2u8 := by rw [eW]; exact (Below.refl _ _).alloc (Nat.le_refl _) _
            replace HC : Hid (PaB w W2 S rb ob ab #[.int .i64 0, .int .i64 0] false (.slice sa x.d sc) (E) W Um2u8) := HC.out.below hb
            clear hbx
            have HVb : Hid (Um2u8.heap[Um2u0.heap.size]? = some (.cells #[.int .i64 x.t.k.1, .int .i64 x.t.k.2] 23)) := by rw [eW]; exact heap_alloc_new _ _
            rw [← eW] at hHeld ⊢
            clear eW
            obtain ⟨vb, evb⟩ : ∃ b, b = Um2u0.heap.size := ⟨_, rfl⟩
            rw [← evb] at HVb ⊢
            clear evb
            clear hb
            refine wpAnyH_ready (rs := [6]) (by kernel_rfl) (by simp) ?_
            refine AllReadyH.cons (o := ⟨some 31, _, _, _, _, _⟩) rfl (fun K hK => ?_) AllReadyH.nil
            refine step_append_lies _ (by rfl) _ _ 49 (by rfl) W2.heap.size 23 i0 (.agg #[.int .i64 0, .int .i64 0]) 2 16 Try.underlying49 hin hz0 hz1 hz2 rfl (by decide) (.slice sa x.d sc) x.d (flatE stCells E) (by rfl) (by have h9 : Um2u8.ownsRow W2.heap.size 23 2 (.slice sa x.d sc) E.length (flatE stCells E) := HC.out.ow; rw [HEl.out] at h9; exact h9) ⟨vb, 0, none⟩ 1 1 (stCells x.t.k) (by rfl) rfl (World.news_of_block HVb.out) (fun y hy => by simp [stCells] at hy; rcases hy with rfl | rfl <;> rfl) (by decide) (by unfold maxLen; omega) (by omega) (by have := HC.out.kp.1; exact this) Um2u8.heap.size rfl ?_
            intro g3 c3 Um2u9 hown3 hgrow3 hat3 hlt3
            have HO3 : Hid (OwnSt W2.heap.size Um2u9 (.slice (some ⟨g3, 0, none⟩) (x.d + 1) c3) (E ++ [x.t.k])) := OwnE.snoc rfl (by rw [HEl.out]; exact hown3)
            have HC3 : Hid (PaB w W2 S rb ob ab #[.int .i64 0, .int .i64 0] false (.slice (some ⟨g3, 0, none⟩) (x.d + 1) c3) (E ++ [x.t.k]) W (Um2u9.setCell ⟨ab, 0, none⟩ (.slice (some ⟨g3, 0, none⟩) (x.d + 1) c3))) := HC.out.row hgrow3 HO3.out
            have HR3 := hide9 (HC.out.rowa hgrow3)
            clear hown3 hgrow3 hat3 hlt3
            refine hK.out _ _ (Nat.zero_le _) (fun hHeld2 => ?_)
            clear hK K hHeld
            have hHeld := hHeld2
            clear hHeld2
            (try simp only [Act.put, List.setIfInBounds_toArray, List.set_cons_zero, List.set_cons_succ])
            clear HC HVb HO3
            refine wpAnyH_ready (rs := [7]) (by kernel_rfl) (by simp) ?_
            refine AllReadyH.cons (o := ⟨none, _, _, _, _, _⟩) rfl (fun K hK => ?_) AllReadyH.nil
            obtain ⟨q0, q1⟩ := HR3.out
            go_simp
            refine hK.out _ _ (Nat.zero_le _) (fun hHeld2 => ?_)
            clear hK K hHeld
            have hHeld := hHeld2
            clear hHeld2
            (try simp only [Act.put, List.setIfInBounds_toArray, List.set_cons_zero, List.set_cons_succ])
            clear q0 q1 HR3
            refine wpAnyH_done (by kernel_rfl) ?_ _
            clear hHeld
            gi_wp2
            refine ⟨HC3.out.kf, HC3.out.kn, _, _, HC3.out.start, HQn.out.1, ?_⟩
            have h9 := HQn.out.2
            rw [show (E ++ [x.t.k]).length = x.d + 1 by rw [List.length_append, HEl.out]; rfl]
            exact h9
          · have hbx : Below Um2u0.heap.size Um2u0 (Um2u0.alloc (.cells #[.int .i64 x.t.k.1, .int .i64 x.t.k.2] 23)) := (Below.refl _ _).alloc (Nat.le_refl _) _
            go_simp
            refine hK.out _ _ (Nat.zero_le _) (fun hHeld2 => ?_)
            clear hK K hHeld
            have hHeld := hHeld2
            clear hHeld2
            (try simp only [Act.put, List.setIfInBounds_toArray, List.set_cons_zero, List.set_cons_succ])
            obtain ⟨Um2u11, eW⟩ : ∃ X, X = Um2u0.alloc (.cells #[.int .i64 x.t.k.1, .int .i64 x.t.k.2] 23) := ⟨_, rfl⟩
            have hb : Below Um2u0.heap.size Um2u0 Um2u11 := by rw [eW]; exact (Below.refl _ _).alloc (Nat.le_refl _) _
            replace HC : Hid (PaB w W2 S rb ob ab #[.int .i64 0, .int .i64 0] false (.slice sa x.d sc) (E) W Um2u11) := HC.out.below hb
            clear hbx
            have HVb : Hid (Um2u11.heap[Um2u0.heap.size]? = some (.cells #[.int .i64 x.t.k.1, .int .i64 x.t.k.2] 23)) := by rw [eW]; exact heap_alloc_new _ _
            rw [← eW] at hHeld ⊢
            clear eW
            obtain ⟨vb, evb⟩ : ∃ b, b = Um2u0.heap.size := ⟨_, rfl⟩
            rw [← evb] at HVb ⊢
            clear evb
            clear hb
            refine wpAnyH_ready (rs := [0]) (by kernel_rfl) (by simp) ?_
            refine AllReadyH.cons (o := ⟨some 25, _, _, _, _, _⟩) rfl (fun K hK => ?_) AllReadyH.nil
            have q0 := HC.out.ca
            go_simp
            refine hK.out _ _ (Nat.zero_le _) (fun hHeld2 => ?_)
            clear hK K hHeld
            have hHeld := hHeld2
            clear hHeld2
            (try simp only [Act.put, List.setIfInBounds_toArray, List.set_cons_zero, List.set_cons_succ])
            clear q0
            refine wpAnyH_ready (rs := [6]) (by kernel_rfl) (by simp) ?_
            refine AllReadyH.cons (o := ⟨some 31, _, _, _, _, _⟩) rfl (fun K hK => ?_) AllReadyH.nil
            refine step_append_lies _ (by rfl) _ _ 49 (by rfl) W2.heap.size 23 i0 (.agg #[.int .i64 0, .int .i64 0]) 2 16 Try.underlying49 hin hz0 hz1 hz2 rfl (by decide) (.slice sa x.d sc) x.d (flatE stCells E) (by rfl) (by have h9 : Um2u11.ownsRow W2.heap.size 23 2 (.slice sa x.d sc) E.length (flatE stCells E) := HC.out.ow; rw [HEl.out] at h9; exact h9) ⟨vb, 0, none⟩ 1 1 (stCells x.t.k) (by rfl) rfl (World.news_of_block HVb.out) (fun y hy => by simp [stCells] at hy; rcases hy with rfl | rfl <;> rfl) (by decide) (by unfold maxLen; omega) (by omega) (by have := HC.out.kp.1; exact this) Um2u11.heap.size rfl ?_
            intro g3 c3 Um2u13 hown3 hgrow3 hat3 hlt3
            have HO3 : Hid (OwnSt W2.heap.size Um2u13 (.slice (some ⟨g3, 0, none⟩) (x.d + 1) c3) (E ++ [x.t.k])) := OwnE.snoc rfl (by rw [HEl.out]; exact hown3)
            have HC3 : Hid (PaB w W2 S rb ob ab #[.int .i64 0, .int .i64 0] false (.slice (some ⟨g3, 0, none⟩) (x.d + 1) c3) (E ++ [x.t.k]) W (Um2u13.setCell ⟨ab, 0, none⟩ (.slice (some ⟨g3, 0, none⟩) (x.d + 1) c3))) := HC.out.row hgrow3 HO3.out
            have HR3 := hide9 (HC.out.rowa hgrow3)
            clear hown3 hgrow3 hat3 hlt3
            refine hK.out _ _ (Nat.zero_le _) (fun hHeld2 => ?_)
            clear hK K hHeld
            have hHeld := hHeld2
            clear hHeld2
            (try simp only [Act.put, List.setIfInBounds_toArray, List.set_cons_zero, List.set_cons_succ])
            clear HC HVb HO3
            refine wpAnyH_ready (rs := [7]) (by kernel_rfl) (by simp) ?_
            refine AllReadyH.cons (o := ⟨none, _, _, _, _, _⟩) rfl (fun K hK => ?_) AllReadyH.nil
            obtain ⟨q0, q1⟩ := HR3.out
            go_simp
            refine hK.out _ _ (Nat.zero_le _) (fun hHeld2 => ?_)
            clear hK K hHeld
            have hHeld := hHeld2
            clear hHeld2
            (try simp only [Act.put, List.setIfInBounds_toArray, List.set_cons_zero, List.set_cons_succ])
            clear q0 q1 HR3
            refine wpAnyH_done (by kernel_rfl) ?_ _
            clear hHeld
            gi_wp2
            refine ⟨HC3.out.kf, HC3.out.kn, _, _, HC3.out.start, HQn.out.1, ?_⟩
            have h9 := HQn.out.2
            rw [show (E ++ [x.t.k]).length = x.d + 1 by rw [List.length_append, HEl.out]; rfl]
            exact h9
    · have q0 : Uk1u0.cell? ⟨kb, 0, none⟩ = some (.int .i64 key.1) := (HC.out.kp.cell (p := ⟨kb, 0, none⟩) HK2.out.1).trans HK2.out.2.1
      have q1 : Uk1u0.cell? ⟨kb, 1, none⟩ = some (.int .i64 key.2) := (HC.out.kp.cell (p := ⟨kb, 1, none⟩) HK2.out.1).trans HK2.out.2.2
      go_simp
      refine hK.out _ _ (Nat.zero_le _) (fun hHeld2 => ?_)
      clear hK K hHeld
      have hHeld := hHeld2
      clear hHeld2
      (try simp only [Act.put, List.setIfInBounds_toArray, List.set_cons_zero, List.set_cons_succ])
      clear q0 q1
      refine wpAnyH_ready (rs := [3]) (by kernel_rfl) (by simp) ?_
      refine AllReadyH.cons (o := ⟨some 18, _, _, _, _, _⟩) rfl (fun K hK => ?_) AllReadyH.nil
      have q0 : Uk1u0.cell? ⟨x.b, x.o, none⟩ = some (.int .i64 x.t.k.1) := (HC.out.kp.cell (p := ⟨x.b, x.o, none⟩) HXv.out.2).trans HX2.out.1
      have q1 : Uk1u0.cell? ⟨x.b, x.o + 1, none⟩ = some (.int .i64 x.t.k.2) := (HC.out.kp.cell (p := ⟨x.b, x.o + 1, none⟩) HXv.out.2).trans HX2.out.2
      go_simp
      refine hK.out _ _ (Nat.zero_le _) (fun hHeld2 => ?_)
      clear hK K hHeld
      have hHeld := hHeld2
      clear hHeld2
      (try simp only [Act.put, List.setIfInBounds_toArray, List.set_cons_zero, List.set_cons_succ])
      clear q0 q1
      refine tkW 5 (some 20) (v := .bool (decide ((x.t.k.1, x.t.k.2) = (key.1, key.2)))) ?_ hHeld ?_
      · (intro ww hSw; (try dsimp only at hSw); go_simp; by_cases e1 : x.t.k.1 = key.1 <;> by_cases e2 : x.t.k.2 = key.2 <;> simp [e1, e2])
      refine wpAnyH_done (by kernel_rfl) ?_ _
      clear hHeld
      obtain ⟨V, eV⟩ : ∃ X, X = Uk1u0 := ⟨_, rfl⟩
      rw [← eV] at HC ⊢
      clear eV
      by_cases hky : x.t.k = key
      · have HRs : Hid (parR [] (xs.map Nd.p) key = lastS E) := HPx.out.trans (if_pos hky)
        have q8 : decide ((x.t.k.1, x.t.k.2) = (key.1, key.2)) = true := decide_eq_true hky
        rw [q8]
        clear hky q8
        have q0 := HC.out.ca
        gi_wp2_with fail
        clear q0
        refine ⟨trivial, fun h => (by cases h), ?_⟩
        refine (CallsIn.inRound l (callsIn_wide.2 (last_any _ _ E _ HC.out.ow (by rw [HEl.out]; omega)))).mono ?_
        rintro e V2 ⟨rfl, hb⟩
        have HC2 : Hid (PaB w W2 S rb ob ab #[.int .i64 0, .int .i64 0] false (.slice sa x.d sc) (E) W V2) := HC.out.below hb
        rw [← HRs.out]
        clear hb HC
        have z0 := HC2.out.co
        have z1 := HC2.out.fo
        have z2 := HC2.out.fr
        have y0 : V2.cell? ⟨rb, 0, none⟩ = some (.int .i64 0) := (by rw [cell_of_row _ _ _ _ _ _ HC2.out.r]; rfl)
        have y1 : V2.cell? ⟨rb, 1, none⟩ = some (.int .i64 0) := (by rw [cell_of_row _ _ _ _ _ _ HC2.out.r]; rfl)
        obtain ⟨hne1, _, _⟩ := HC2.out.ne
        have hne2 : ob ≠ rb := fun e => hne1 e.symm
        gi_wp2
        obtain ⟨h8, h9⟩ := HC2.out.told (parR [] (xs.map Nd.p) key).2 rfl
        exact ⟨h8.kf, rfl, _, E, h8.start⟩
      · have q8 : decide ((x.t.k.1, x.t.k.2) = (key.1, key.2)) = false := decide_eq_false hky
        have HQn : Hid (parR [] (xs.map Nd.p) key = parR (E ++ [x.t.k]) ((xs.drop (k + 1)).map Nd.p) key ∧ PreD (x.d + 1) ((xs.drop (k + 1)).map Nd.p)) := ⟨HPx.out.trans (if_neg hky), HPe.out⟩
        rw [q8]
        clear hky q8 HPx HPe
        gi_wp2
        refine region_round_held (S := fun W' => 0 ≤ W'.heap.size) l (by kernel_rfl) (by kernel_rfl) (lets_block lets_round) (Nat.zero_le _) (fun hHeld => ?_)
        obtain ⟨Um3u0, eW⟩ : ∃ X, X = V.drew := ⟨_, rfl⟩
        have hb : Below V.heap.size V Um3u0 := by rw [eW]; exact (Below.refl _ _).drew
        replace HC : Hid (PaB w W2 S rb ob ab #[.int .i64 0, .int .i64 0] false (.slice sa x.d sc) (E) W Um3u0) := HC.out.below hb
        rw [← eW] at hHeld ⊢
        clear eW hb
        refine tkW 1 (some 26) (v := ?_) ?_ hHeld ?_
        rotate_left
        · (intro ww _; go_simp; try with_reducible rfl)
        refine tkW 2 (some 27) (v := ?_) ?_ hHeld ?_
        rotate_left
        · (intro ww hSw; (try dsimp only at hSw); go_simp; try with_reducible rfl)
        refine tkW 3 (some 28) (v := ?_) ?_ hHeld ?_
        rotate_left
        · (intro ww _; go_simp; try with_reducible rfl)
        refine wpAnyH_ready (rs := [0, 4]) (by kernel_rfl) (by simp) ?_
        refine AllReadyH.cons (o := ⟨some 25, _, _, _, _, _⟩) rfl (fun K hK => ?_) (AllReadyH.cons (o := ⟨some 29, _, _, _, _, _⟩) rfl (fun K hK => ?_) AllReadyH.nil)
        · have q0 := HC.out.ca
          go_simp
          refine hK.out _ _ (Nat.zero_le _) (fun hHeld2 => ?_)
          clear hK K hHeld
          have hHeld := hHeld2
          clear hHeld2
          (try simp only [Act.put, List.setIfInBounds_toArray, List.set_cons_zero, List.set_cons_succ])
          clear q0
          refine wpAnyH_ready (rs := [4]) (by kernel_rfl) (by simp) ?_
          refine AllReadyH.cons (o := ⟨some 29, _, _, _, _, _⟩) rfl (fun K hK => ?_) AllReadyH.nil
          have q0 : Um3u0.cell? ⟨x.b, x.o, none⟩ = some (.int .i64 x.t.k.1) := (HC.out.kp.cell (p := ⟨x.b, x.o, none⟩) HXv.out.2).trans HX2.out.1
          have q1 : Um3u0.cell? ⟨x.b, x.o + 1, none⟩ = some (.int .i64 x.t.k.2) := (HC.out.kp.cell (p := ⟨x.b, x.o + 1, none⟩) HXv.out.2).trans HX2.out.2
          go_simp
          refine hK.out _ _ (Nat.zero_le _) (fun hHeld2 => ?_)
          clear hK K hHeld
          have hHeld := hHeld2
          clear hHeld2
          (try simp only [Act.put, List.setIfInBounds_toArray, List.set_cons_zero, List.set_cons_succ])
          clear q0 q1
          refine wpAnyH_ready (rs := [5]) (by kernel_rfl) (by simp) ?_
          refine AllReadyH.cons (o := ⟨some 30, _, _, _, _, _⟩) rfl (fun K hK => ?_) AllReadyH.nil
          have hbx : Below Um3u0.heap.size Um3u0 (Um3u0.alloc (.cells #[.int .i64 x.t.k.1, .int .i64 x.t.k.2] 23)) := (Below.refl _ _).alloc (Nat.le_refl _) _
          go_simp
          refine hK.out _ _ (Nat.zero_le _) (fun hHeld2 => ?_)
          clear hK K hHeld
          have hHeld := hHeld2
          clear hHeld2
          (try simp only [Act.put, List.setIfInBounds_toArray, List.set_cons_zero, List.set_cons_succ])
          obtain ⟨Um3u3, eW⟩ : ∃ X, X = Um3u0.alloc (.cells #[.int .i64 x.t.k.1, .int .i64 x.t.k.2] 23) := ⟨_, rfl⟩
          have hb : Below Um3u0.heap.size Um3u0 Um3u3 := by rw [eW]; exact (Below.refl _ _).alloc (Nat.le_refl _) _
          replace HC : Hid (PaB w W2 S rb ob ab #[.int .i64 0, .int .i64 0] false (.slice sa x.d sc) (E) W Um3u3) := HC.out.below hb
          clear hbx
          have HVb : Hid (Um3u3.heap[Um3u0.heap.size]? = some (.cells #[.int .i64 x.t.k.1, .int .i64 x.t.k.2] 23)) := by rw [eW]; exact heap_alloc_new _ _
          rw [← eW] at hHeld ⊢
          clear eW
          obtain ⟨vb, evb⟩ : ∃ b, b = Um3u0.heap.size := ⟨_, rfl⟩
          rw [← evb] at HVb ⊢
          clear evb
          clear hb
          refine wpAnyH_ready (rs := [6]) (by kernel_rfl) (by simp) ?_
          refine AllReadyH.cons (o := ⟨some 31, _, _, _, _, _⟩) rfl (fun K hK => ?_) AllReadyH.nil
          refine step_append_lies _ (by rfl) _ _ 49 (by rfl) W2.heap.size 23 i0 (.agg #[.int .i64 0, .int .i64 0]) 2 16 Try.underlying49 hin hz0 hz1 hz2 rfl (by decide) (.slice sa x.d sc) x.d (flatE stCells E) (by rfl) (by have h9 : Um3u3.ownsRow W2.heap.size 23 2 (.slice sa x.d sc) E.length (flatE stCells E) := HC.out.ow; rw [HEl.out] at h9; exact h9) ⟨vb, 0, none⟩ 1 1 (stCells x.t.k) (by rfl) rfl (World.news_of_block HVb.out) (fun y hy => by simp [stCells] at hy; rcases hy with rfl | rfl <;> rfl) (by decide) (by unfold maxLen; omega) (by omega) (by have := HC.out.kp.1; exact this) Um3u3.heap.size rfl ?_
          intro g3 c3 Um3u4 hown3 hgrow3 hat3 hlt3
          have HO3 : Hid (OwnSt W2.heap.size Um3u4 (.slice (some ⟨g3, 0, none⟩) (x.d + 1) c3) (E ++ [x.t.k])) := OwnE.snoc rfl (by rw [HEl.out]; exact hown3)
          have HC3 : Hid (PaB w W2 S rb ob ab #[.int .i64 0, .int .i64 0] false (.slice (some ⟨g3, 0, none⟩) (x.d + 1) c3) (E ++ [x.t.k]) W (Um3u4.setCell ⟨ab, 0, none⟩ (.slice (some ⟨g3, 0, none⟩) (x.d + 1) c3))) := HC.out.row hgrow3 HO3.out
          have HR3 := hide9 (HC.out.rowa hgrow3)
          clear hown3 hgrow3 hat3 hlt3
          refine hK.out _ _ (Nat.zero_le _) (fun hHeld2 => ?_)
          clear hK K hHeld
          have hHeld := hHeld2
          clear hHeld2
          (try simp only [Act.put, List.setIfInBounds_toArray, List.set_cons_zero, List.set_cons_succ])
          clear HC HVb HO3
          refine wpAnyH_ready (rs := [7]) (by kernel_rfl) (by simp) ?_
          refine AllReadyH.cons (o := ⟨none, _, _, _, _, _⟩) rfl (fun K hK => ?_) AllReadyH.nil
          obtain ⟨q0, q1⟩ := HR3.out
          go_simp
          refine hK.out _ _ (Nat.zero_le _) (fun hHeld2 => ?_)
          clear hK K hHeld
          have hHeld := hHeld2
          clear hHeld2
          (try simp only [Act.put, List.setIfInBounds_toArray, List.set_cons_zero, List.set_cons_succ])
          clear q0 q1 HR3
          refine wpAnyH_done (by kernel_rfl) ?_ _
          clear hHeld
          gi_wp2
          refine ⟨HC3.out.kf, HC3.out.kn, _, _, HC3.out.start, HQn.out.1, ?_⟩
          have h9 := HQn.out.2
          rw [show (E ++ [x.t.k]).length = x.d + 1 by rw [List.length_append, HEl.out]; rfl]
          exact h9
        · have q0 : Um3u0.cell? ⟨x.b, x.o, none⟩ = some (.int .i64 x.t.k.1) := (HC.out.kp.cell (p := ⟨x.b, x.o, none⟩) HXv.out.2).trans HX2.out.1
          have q1 : Um3u0.cell? ⟨x.b, x.o + 1, none⟩ = some (.int .i64 x.t.k.2) := (HC.out.kp.cell (p := ⟨x.b, x.o + 1, none⟩) HXv.out.2).trans HX2.out.2
          go_simp
          refine hK.out _ _ (Nat.zero_le _) (fun hHeld2 => ?_)
          clear hK K hHeld
          have hHeld := hHeld2
          clear hHeld2
          (try simp only [Act.put, List.setIfInBounds_toArray, List.set_cons_zero, List.set_cons_succ])
          clear q0 q1
          refine wpAnyH_ready (rs := [0, 5]) (by kernel_rfl) (by simp) ?_
          refine AllReadyH.cons (o := ⟨some 25, _, _, _, _, _⟩) rfl (fun K hK => ?_) (AllReadyH.cons (o := ⟨some 30, _, _, _, _, _⟩) rfl (fun K hK => ?_) AllReadyH.nil)
          · have q0 := HC.out.ca
            go_simp
            refine hK.out _ _ (Nat.zero_le _) (fun hHeld2 => ?_)
            clear hK K hHeld
            have hHeld := hHeld2
            clear hHeld2
            (try simp only [Act.put, List.setIfInBounds_toArray, List.set_cons_zero, List.set_cons_succ])
            clear q0
            refine wpAnyH_ready (rs := [5]) (by kernel_rfl) (by simp) ?_
            refine AllReadyH.cons (o := ⟨some 30, _, _, _, _, _⟩) rfl (fun K hK => ?_) AllReadyH.nil
            have hbx : Below Um3u0.heap.size Um3u0 (Um3u0.alloc (.cells #[.int .i64 x.t.k.1, .int .i64 x.t.k.2] 23)) := (Below.refl _ _).alloc (Nat.le_refl _) _
            go_simp
            refine hK.out _ _ (Nat.zero_le _) (fun hHeld2 => ?_)
            clear hK K hHeld
            have hHeld := hHeld2
            clear hHeld2
            (try simp only [Act.put, List.setIfInBounds_toArray, List.set_cons_zero, List.set_cons_succ])
            obtain ⟨Um3u8, eW⟩ : ∃ X, X = Um3u0.alloc (.cells #[.int .i64 x.t.k.1, .int .i64 x.t.k.2] 23) := ⟨_, rfl⟩
            have hb : Below Um3u0.heap.size Um3u0 Um3u8 := by rw [eW]; exact (Below.refl _ _).alloc (Nat.le_refl _) _
            replace HC : Hid (PaB w W2 S rb ob ab #[.int .i64 0, .int .i64 0] false (.slice sa x.d sc) (E) W Um3u8) := HC.out.below hb
            clear hbx
            have HVb : Hid (Um3u8.heap[Um3u0.heap.size]? = some (.cells #[.int .i64 x.t.k.1, .int .i64 x.t.k.2] 23)) := by rw [eW]; exact heap_alloc_new _ _
            rw [← eW] at hHeld ⊢
            clear eW
            obtain ⟨vb, evb⟩ : ∃ b, b = Um3u0.heap.size := ⟨_, rfl⟩
            rw [← evb] at HVb ⊢
            clear evb
            clear hb
            refine wpAnyH_ready (rs := [6]) (by kernel_rfl) (by simp) ?_
            refine AllReadyH.cons (o := ⟨some 31, _, _, _, _, _⟩) rfl (fun K hK => ?_) AllReadyH.nil
            refine step_append_lies _ (by rfl) _ _ 49 (by rfl) W2.heap.size 23 i0 (.agg #[.int .i64 0, .int .i64 0]) 2 16 Try.underlying49 hin hz0 hz1 hz2 rfl (by decide) (.slice sa x.d sc) x.d (flatE stCells E) (by rfl) (by have h9 : Um3u8.ownsRow W2.heap.size 23 2 (.slice sa x.d sc) E.length (flatE stCells E) := HC.out.ow; rw [HEl.out] at h9; exact h9) ⟨vb, 0, none⟩ 1 1 (stCells x.t.k) (by rfl) rfl (World.news_of_block HVb.out) (fun y hy => by simp [stCells] at hy; rcases hy with rfl | rfl <;> rfl) (by decide) (by unfold maxLen; omega) (by omega) (by have := HC.out.kp.1; exact this) Um3u8.heap.size rfl ?_
            intro g3 c3 Um3u9 hown3 hgrow3 hat3 hlt3
            have HO3 : Hid (OwnSt W2.heap.size Um3u9 (.slice (some ⟨g3, 0, none⟩) (x.d + 1) c3) (E ++ [x.t.k])) := OwnE.snoc rfl (by rw [HEl.out]; exact hown3)
            have HC3 : Hid (PaB w W2 S rb ob ab #[.int .i64 0, .int .i64 0] false (.slice (some ⟨g3, 0, none⟩) (x.d + 1) c3) (E ++ [x.t.k]) W (Um3u9.setCell ⟨ab, 0, none⟩ (.slice (some ⟨g3, 0, none⟩) (x.d + 1) c3))) := HC.out.row hgrow3 HO3.out
            have HR3 := hide9 (HC.out.rowa hgrow3)
            clear hown3 hgrow3 hat3 hlt3
            refine hK.out _ _ (Nat.zero_le _) (fun hHeld2 => ?_)
            clear hK K hHeld
            have hHeld := hHeld2
            clear hHeld2
            (try simp only [Act.put, List.setIfInBounds_toArray, List.set_cons_zero, List.set_cons_succ])
            clear HC HVb HO3
            refine wpAnyH_ready (rs := [7]) (by kernel_rfl) (by simp) ?_
            refine AllReadyH.cons (o := ⟨none, _, _, _, _, _⟩) rfl (fun K hK => ?_) AllReadyH.nil
            obtain ⟨q0, q1⟩ := HR3.out
            go_simp
            refine hK.out _ _ (Nat.zero_le _) (fun hHeld2 => ?_)
            clear hK K hHeld
            have hHeld := hHeld2
            clear hHeld2
            (try simp only [Act.put, List.setIfInBounds_toArray, List.set_cons_zero, List.set_cons_succ])
            clear q0 q1 HR3
            refine wpAnyH_done (by kernel_rfl) ?_ _
            clear hHeld
            gi_wp2
            refine ⟨HC3.out.kf, HC3.out.kn, _, _, HC3.out.start, HQn.out.1, ?_⟩
            have h9 := HQn.out.2
            rw [show (E ++ [x.t.k]).length = x.d + 1 by rw [List.length_append, HEl.out]; rfl]
            exact h9
          · have hbx : Below Um3u0.heap.size Um3u0 (Um3u0.alloc (.cells #[.int .i64 x.t.k.1, .int .i64 x.t.k.2] 23)) := (Below.refl _ _).alloc (Nat.le_refl _) _
            go_simp
            refine hK.out _ _ (Nat.zero_le _) (fun hHeld2 => ?_)
            clear hK K hHeld
            have hHeld := hHeld2
            clear hHeld2
            (try simp only [Act.put, List.setIfInBounds_toArray, List.set_cons_zero, List.set_cons_succ])
            obtain ⟨Um3u11, eW⟩ : ∃ X, X = Um3u0.alloc (.cells #[.int .i64 x.t.k.1, .int .i64 x.t.k.2] 23) := ⟨_, rfl⟩
            have hb : Below Um3u0.heap.size Um3u0 Um3u11 := by rw [eW]; exact (Below.refl _ _).alloc (Nat.le_refl _) _
            replace HC : Hid (PaB w W2 S rb ob ab #[.int .i64 0, .int .i64 0] false (.slice sa x.d sc) (E) W Um3u11) := HC.out.below hb
            clear hbx
            have HVb : Hid (Um3u11.heap[Um3u0.heap.size]? = some (.cells #[.int .i64 x.t.k.1, .int .i64 x.t.k.2] 23)) := by rw [eW]; exact heap_alloc_new _ _
            rw [← eW] at hHeld ⊢
            clear eW
            obtain ⟨vb, evb⟩ : ∃ b, b = Um3u0.heap.size := ⟨_, rfl⟩
            rw [← evb] at HVb ⊢
            clear evb
            clear hb
            refine wpAnyH_ready (rs := [0]) (by kernel_rfl) (by simp) ?_
            refine AllReadyH.cons (o := ⟨some 25, _, _, _, _, _⟩) rfl (fun K hK => ?_) AllReadyH.nil
            have q0 := HC.out.ca
            go_simp
            refine hK.out _ _ (Nat.zero_le _) (fun hHeld2 => ?_)
            clear hK K hHeld
            have hHeld := hHeld2
            clear hHeld2
            (try simp only [Act.put, List.setIfInBounds_toArray, List.set_cons_zero, List.set_cons_succ])
            clear q0
            refine wpAnyH_ready (rs := [6]) (by kernel_rfl) (by simp) ?_
            refine AllReadyH.cons (o := ⟨some 31, _, _, _, _, _⟩) rfl (fun K hK => ?_) AllReadyH.nil
            refine step_append_lies _ (by rfl) _ _ 49 (by rfl) W2.heap.size 23 i0 (.agg #[.int .i64 0, .int .i64 0]) 2 16 Try.underlying49 hin hz0 hz1 hz2 rfl (by decide) (.slice sa x.d sc) x.d (flatE stCells E) (by rfl) (by have h9 : Um3u11.ownsRow W2.heap.size 23 2 (.slice sa x.d sc) E.length (flatE stCells E) := HC.out.ow; rw [HEl.out] at h9; exact h9) ⟨vb, 0, none⟩ 1 1 (stCells x.t.k) (by rfl) rfl (World.news_of_block HVb.out) (fun y hy => by simp [stCells] at hy; rcases hy with rfl | rfl <;> rfl) (by decide) (by unfold maxLen; omega) (by omega) (by have := HC.out.kp.1; exact this) Um3u11.heap.size rfl ?_
            intro g3 c3 Um3u13 hown3 hgrow3 hat3 hlt3
            have HO3 : Hid (OwnSt W2.heap.size Um3u13 (.slice (some ⟨g3, 0, none⟩) (x.d + 1) c3) (E ++ [x.t.k])) := OwnE.snoc rfl (by rw [HEl.out]; exact hown3)
            have HC3 : Hid (PaB w W2 S rb ob ab #[.int .i64 0, .int .i64 0] false (.slice (some ⟨g3, 0, none⟩) (x.d + 1) c3) (E ++ [x.t.k]) W (Um3u13.setCell ⟨ab, 0, none⟩ (.slice (some ⟨g3, 0, none⟩) (x.d + 1) c3))) := HC.out.row hgrow3 HO3.out
            have HR3 := hide9 (HC.out.rowa hgrow3)
            clear hown3 hgrow3 hat3 hlt3
            refine hK.out _ _ (Nat.zero_le _) (fun hHeld2 => ?_)
            clear hK K hHeld
            have hHeld := hHeld2
            clear hHeld2
            (try simp only [Act.put, List.setIfInBounds_toArray, List.set_cons_zero, List.set_cons_succ])
            clear HC HVb HO3
            refine wpAnyH_ready (rs := [7]) (by kernel_rfl) (by simp) ?_
            refine AllReadyH.cons (o := ⟨none, _, _, _, _, _⟩) rfl (fun K hK => ?_) AllReadyH.nil
            obtain ⟨q0, q1⟩ := HR3.out
            go_simp
            refine hK.out _ _ (Nat.zero_le _) (fun hHeld2 => ?_)
            clear hK K hHeld
            have hHeld := hHeld2
            clear hHeld2
            (try simp only [Act.put, List.setIfInBounds_toArray, List.set_cons_zero, List.set_cons_succ])
            clear q0 q1 HR3
            refine wpAnyH_done (by kernel_rfl) ?_ _
            clear hHeld
            gi_wp2
            refine ⟨HC3.out.kf, HC3.out.kn, _, _, HC3.out.start, HQn.out.1, ?_⟩
            have h9 := HQn.out.2
            rw [show (E ++ [x.t.k]).length = x.d + 1 by rw [List.length_append, HEl.out]; rfl]
            exact h9
  case done =>
    rintro Dd W hDd ⟨v, D, hA, hpa, _⟩ hDf
    rw [List.drop_length] at hpa
    have HFd : Hid (parR [] (flatD t 0) key = ((0, 0), false)) := (by show _ = _; rw [← HXp.out, hpa]; rfl)
    have HC2 := hide9 hA
    have HDf := hide9 hDf
    clear hA hDf hpa
    have z0 := HC2.out.co
    have z1 := HC2.out.fo
    have z2 := HC2.out.fr
    have y0 : W.cell? ⟨rb, 0, none⟩ = some (.int .i64 0) := (by rw [cell_of_row _ _ _ _ _ _ HC2.out.r]; rfl)
    have y1 : W.cell? ⟨rb, 1, none⟩ = some (.int .i64 0) := (by rw [cell_of_row _ _ _ _ _ _ HC2.out.r]; rfl)
    obtain ⟨hne1, _, _⟩ := HC2.out.ne
    have hne2 : ob ≠ rb := fun e => hne1 e.symm
    gi_wp2
    obtain ⟨h8, h11⟩ := HC2.out.told false rfl
    have hDg := (h11 Dd (by have := HC2.out.nr.2.2; omega) (by have := HC2.out.no.2.2; omega)).trans HDf.out
    refine ⟨by simp, .inl ⟨_, _, rfl, run_takeDeferred hDg, ?_⟩⟩
    have hE := h8.grown (grownBy_putObj' _ Dd (.deferred none)) (fun r e => by cases e; exact ⟨hDd, _, hDg, rfl⟩)
    refine ⟨_, results_two rfl _ _ rb ob _ _ rfl rfl (loadST _ _ _ _ hE.r) hE.co, by rw [HFd.out], hE.bel⟩
  case stop =>
    rintro Dd c k W hD hk ⟨rfl, v, D, hA⟩ hDf
    have HA := hide9 hA
    have HDf := hide9 hDf
    clear hA hDf
    gi_wp2
    refine ⟨by simp, .inl ⟨_, _, rfl, run_takeDeferred HDf.out, ?_⟩⟩
    have hE := HA.out.grown (grownBy_putObj' W Dd (.deferred none)) (fun r e => by cases e; exact ⟨hD, _, HDf.out, rfl⟩)
    refine ⟨_, results_two rfl _ _ rb ob _ _ rfl rfl (loadST _ _ _ _ hE.r) hE.co, by rw [HXp.out], hE.bel⟩

theorem parent_any (G : Nat → Prop) (t : VT) (key : St) (v : Value) (w : World) (h : VIs G w v t) (hsz : t.sz ≤ 1048576) : Calls Try.prog 32 #[v, .agg #[.int .i64 key.1, .int .i64 key.2]] w fun e w' => e = .returned (.tuple #[.agg #[.int .i64 (parR [] (flatD t 0) key).1.1, .int .i64 (parR [] (flatD t 0) key).1.2], .bool (parR [] (flatD t 0) key).2]) ∧ Below w.heap.size w w' := callsIn_wide.1 (parent_in 5 (Nat.le_refl _) G t key v w h hsz)

end Go.Proofs.Ytnanlmmmppcipaa
