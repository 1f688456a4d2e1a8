/- The program's Find. -/
import Derived.Test.YtnanlmmmppcipaaVtKb
namespace Go.Proofs.Ytnanlmmmppcipaa
open Go.RowKit Go.Shelf
set_option linter.unusedVariables false
set_option linter.unusedSimpArgs false

attribute [local go_sem] Oper.semAt_some

set_option maxRecDepth 100000 in
set_option maxHeartbeats 8000000 in
theorem find_in (n0 : Nat) (hn : 5 ≤ n0) (G : Nat → Prop) (t : VT) (key : St) (v : Value) (w : World) (h : VIs G w v t) (hsz : t.sz ≤ 1048576) :
    CallsIn Fence.wide n0 Try.prog 30 #[v, .agg #[.int .i64 key.1, .int .i64 key.2]] w fun e w' => ∃ (x : VT) (av kv : Value) (F : Nat → Prop), e = .returned (.tuple #[.agg #[.int .i64 x.k.1, .int .i64 x.k.2, .string x.tg, .string x.tx, av, kv], .bool (fndT t key).isSome]) ∧ (fndT t key).getD tZ = x ∧ SepF x.sz w' F av kv x ∧ (∀ k, F k → w.heap.size ≤ k ∧ k < w'.heap.size) ∧ Below w.heap.size w w' := by
  have hro : Fence.wide.round = none := rfl
  have h1n : 1 ≤ n0 := by omega
  obtain ⟨aa, ca, ak, ck, e1, fd⟩ := h.form
  subst e1
  clear h
  refine callsIn_of_wp_marks Try.func30 rfl trivial ?_ hro
  simp only [Try.ntmps30, List.size_toArray, List.length_cons, List.length_nil, Nat.reduceAdd, Nat.reduceSub, Array.replicate_succ, Array.replicate_zero, List.push_toArray, List.append_toArray, List.nil_append, List.cons_append]
  gi_wp2_with fail
  refine ⟨trivial, ?_⟩
  refine (callsIn_wide.2 (nodes_any w.heap.size _)).mono ?_
  rintro e W2 ⟨rfl, hw2⟩
  have hO0 : W2.heap[w.heap.size]? = some (.cells #[.int .i64 t.k.1, .int .i64 t.k.2, .string t.tg, .string t.tx, .slice aa t.at_.length ca, .slice ak t.ks.length ck] 27) := (by rw [hw2]; rw [Below.heap_alloc _ _ _ (by simp <;> omega)]; rw [Below.heap_alloc _ _ _ (by simp <;> omega)]; rw [Below.heap_alloc _ _ _ (by simp <;> omega)]; rw [Below.heap_alloc _ _ _ (by simp <;> omega)]; have h := heap_alloc_new w (.cells #[.int .i64 t.k.1, .int .i64 t.k.2, .string t.tg, .string t.tx, .slice aa t.at_.length ca, .slice ak t.ks.length ck] 27); exact h)
  have hO1 : W2.heap[w.heap.size + 1]? = some (.cells #[.int .i64 key.1, .int .i64 key.2] 23) := (by rw [hw2]; rw [Below.heap_alloc _ _ _ (by simp <;> omega)]; rw [Below.heap_alloc _ _ _ (by simp <;> omega)]; rw [Below.heap_alloc _ _ _ (by simp <;> omega)]; have h := heap_alloc_new (w.alloc (.cells #[.int .i64 t.k.1, .int .i64 t.k.2, .string t.tg, .string t.tx, .slice aa t.at_.length ca, .slice ak t.ks.length ck] 27)) (.cells #[.int .i64 key.1, .int .i64 key.2] 23); rw [show (w.alloc (.cells #[.int .i64 t.k.1, .int .i64 t.k.2, .string t.tg, .string t.tx, .slice aa t.at_.length ca, .slice ak t.ks.length ck] 27)).heap.size = w.heap.size + 1 by simp] at h; exact h)
  have hO2 : W2.heap[w.heap.size + 2]? = some (.cells #[.int .i64 0, .int .i64 0, .string ⟨#[]⟩, .string ⟨#[]⟩, .slice none 0 0, .slice none 0 0] 27) := (by rw [hw2]; rw [Below.heap_alloc _ _ _ (by simp <;> omega)]; rw [Below.heap_alloc _ _ _ (by simp <;> omega)]; have h := heap_alloc_new ((w.alloc (.cells #[.int .i64 t.k.1, .int .i64 t.k.2, .string t.tg, .string t.tx, .slice aa t.at_.length ca, .slice ak t.ks.length ck] 27)).alloc (.cells #[.int .i64 key.1, .int .i64 key.2] 23)) (.cells #[.int .i64 0, .int .i64 0, .string ⟨#[]⟩, .string ⟨#[]⟩, .slice none 0 0, .slice none 0 0] 27); rw [show ((w.alloc (.cells #[.int .i64 t.k.1, .int .i64 t.k.2, .string t.tg, .string t.tx, .slice aa t.at_.length ca, .slice ak t.ks.length ck] 27)).alloc (.cells #[.int .i64 key.1, .int .i64 key.2] 23)).heap.size = w.heap.size + 2 by simp] at h; exact h)
  have hO3 : W2.heap[w.heap.size + 3]? = some (.cells #[.bool false] 4) := (by rw [hw2]; rw [Below.heap_alloc _ _ _ (by simp <;> omega)]; have h := heap_alloc_new (((w.alloc (.cells #[.int .i64 t.k.1, .int .i64 t.k.2, .string t.tg, .string t.tx, .slice aa t.at_.length ca, .slice ak t.ks.length ck] 27)).alloc (.cells #[.int .i64 key.1, .int .i64 key.2] 23)).alloc (.cells #[.int .i64 0, .int .i64 0, .string ⟨#[]⟩, .string ⟨#[]⟩, .slice none 0 0, .slice none 0 0] 27)) (.cells #[.bool false] 4); rw [show (((w.alloc (.cells #[.int .i64 t.k.1, .int .i64 t.k.2, .string t.tg, .string t.tx, .slice aa t.at_.length ca, .slice ak t.ks.length ck] 27)).alloc (.cells #[.int .i64 key.1, .int .i64 key.2] 23)).alloc (.cells #[.int .i64 0, .int .i64 0, .string ⟨#[]⟩, .string ⟨#[]⟩, .slice none 0 0, .slice none 0 0] 27)).heap.size = w.heap.size + 3 by simp] at h; exact h)
  have hO4 : W2.heap[w.heap.size + 4]? = some (.cells #[.pointer (some ⟨w.heap.size, 0, none⟩)] 66) := (by rw [hw2]; have h := heap_alloc_new ((((w.alloc (.cells #[.int .i64 t.k.1, .int .i64 t.k.2, .string t.tg, .string t.tx, .slice aa t.at_.length ca, .slice ak t.ks.length ck] 27)).alloc (.cells #[.int .i64 key.1, .int .i64 key.2] 23)).alloc (.cells #[.int .i64 0, .int .i64 0, .string ⟨#[]⟩, .string ⟨#[]⟩, .slice none 0 0, .slice none 0 0] 27)).alloc (.cells #[.bool false] 4)) (.cells #[.pointer (some ⟨w.heap.size, 0, none⟩)] 66); rw [show ((((w.alloc (.cells #[.int .i64 t.k.1, .int .i64 t.k.2, .string t.tg, .string t.tx, .slice aa t.at_.length ca, .slice ak t.ks.length ck] 27)).alloc (.cells #[.int .i64 key.1, .int .i64 key.2] 23)).alloc (.cells #[.int .i64 0, .int .i64 0, .string ⟨#[]⟩, .string ⟨#[]⟩, .slice none 0 0, .slice none 0 0] 27)).alloc (.cells #[.bool false] 4)).heap.size = w.heap.size + 4 by simp] at h; exact h)
  have hb2 : Below w.heap.size w W2 := (by rw [hw2]; exact (((((Below.refl _ _).alloc (Nat.le_refl _) _).alloc (by simp <;> omega) _).alloc (by simp <;> omega) _).alloc (by simp <;> omega) _).alloc (by simp <;> omega) _)
  have hs2 : W2.heap.size = w.heap.size + 5 := (by rw [hw2]; simp)
  have eB : ((((w.alloc (.cells #[.int .i64 t.k.1, .int .i64 t.k.2, .string t.tg, .string t.tx, .slice aa t.at_.length ca, .slice ak t.ks.length ck] 27)).alloc (.cells #[.int .i64 key.1, .int .i64 key.2] 23)).alloc (.cells #[.int .i64 0, .int .i64 0, .string ⟨#[]⟩, .string ⟨#[]⟩, .slice none 0 0, .slice none 0 0] 27)).alloc (.cells #[.bool false] 4)).heap.size = w.heap.size + 4 := by simp
  rw [eB]
  clear eB hw2
  obtain ⟨kb, ekb⟩ : ∃ b, b = w.heap.size + 1 := ⟨_, rfl⟩
  obtain ⟨rb, erb⟩ : ∃ b, b = w.heap.size + 2 := ⟨_, rfl⟩
  obtain ⟨ob, eob⟩ : ∃ b, b = w.heap.size + 3 := ⟨_, rfl⟩
  obtain ⟨pb, epb⟩ : ∃ b, b = w.heap.size + 4 := ⟨_, rfl⟩
  rw [← ekb] at hO1
  rw [← erb] at hO2
  rw [← eob] at hO3
  rw [← epb] at hO4
  rw [← epb]
  obtain ⟨S, eS⟩ : ∃ S : Nat → Prop, S = fun k => k < W2.heap.size ∧ k ≠ rb ∧ k ≠ ob := ⟨_, rfl⟩
  have hSl : ∀ k, S k → k < W2.heap.size := fun k q => by (rw [eS] at q; exact q.1)
  have hS0 : ∀ k, k < w.heap.size → S k := fun k q => by (rw [eS]; exact ⟨by omega, by omega, by omega⟩)
  have hST : S w.heap.size := by (rw [eS]; exact ⟨by omega, by omega, by omega⟩)
  have hSk : S kb := by (rw [eS]; exact ⟨by omega, by omega, by omega⟩)
  have hnr : ¬ S rb := fun q => by (rw [eS] at q; exact q.2.1 rfl)
  have hno : ¬ S ob := fun q => by (rw [eS] at q; exact q.2.2 rfl)
  have hva := VAt.boxed fd hb2 hO0 hS0
  have HSq := nodes_seq (n0 - 1) S W2.heap.size pb w.heap.size t W2 hSl (Nat.le_refl _) (by rw [cell_of_row _ _ _ _ _ _ hO4]; rfl) hva hST (by omega)
  have HA0 : FnS w W2 S rb ob #[.int .i64 0, .int .i64 0, .string ⟨#[]⟩, .string ⟨#[]⟩, .slice none 0 0, .slice none 0 0] false W2 := ⟨hO2, hO3, hb2, KeepsS.refl _ _, hSl, ⟨hnr, by omega, by omega⟩, ⟨hno, by omega, by omega⟩, by omega, by omega⟩
  have HK2 : Hid (S kb ∧ W2.cell? ⟨kb, 0, none⟩ = some (.int .i64 key.1) ∧ W2.cell? ⟨kb, 1, none⟩ = some (.int .i64 key.2)) := ⟨hSk, by rw [cell_of_row _ _ _ _ _ _ hO1]; rfl, by rw [cell_of_row _ _ _ _ _ _ hO1]; rfl⟩
  obtain ⟨xs, exs⟩ : ∃ xs, xs = flatA W2 t 0 w.heap.size 0 := ⟨_, rfl⟩
  rw [← exs] at HSq
  have hxp : xs.map Nd.t = flT t := (by have h1 : xs.map Nd.p = flatD t 0 := (by rw [exs]; exact flatA_p _ _ _ _ _); have h2 := flatD_snd t 0; rw [← h1, List.map_map] at h2; exact h2)
  have HXp := hide9 hxp
  have HAt : Hid (∀ x ∈ xs, VAt S W2 x.t x.b x.o ∧ S x.b) := (by rw [exs]; exact flatA_at hva hST)
  clear hxp exs eS hS0 hST hSk hva fd hO0 hO1 hO2 hO3 hO4 hb2 hs2 epb hnr hno
  gi_wp2
  (try rw [show w.heap.size + 1 + 1 + 1 = ob by omega])
  (try rw [show w.heap.size + 1 + 1 = rb by omega])
  (try rw [← eob])
  (try rw [← erb])
  (try rw [← ekb])
  clear ekb erb eob
  refine range_of h1n (gf := 58) (lb := #[.pointer (some ⟨pb, 0, none⟩)]) rfl (enters_of Try.func58 (by kernel_rfl) rfl) HSq KpN.trans (fun W l o o' hl ho hc _ => KpN.obj hl hSl ho hc) (Below.refl _ _) (fun _ => rfl)
    (fun k W => FnS w W2 S rb ob #[.int .i64 0, .int .i64 0, .string ⟨#[]⟩, .string ⟨#[]⟩, .slice none 0 0, .slice none 0 0] false W ∧ (xs.take k).find? (fun x => decide (x.t.k = key)) = none) (fun c k W => c = .ret ∧ ∃ (x : VT) (av kv : Value) (F : Nat → Prop), fndT t key = some x ∧ FnS w W2 S rb ob #[.int .i64 x.k.1, .int .i64 x.k.2, .string x.tg, .string x.tx, av, kv] true W ∧ Sp W2.heap.size x F av kv W)
    (fun k A B row h1 hg hr => ⟨h1.1.grown hg hr, h1.2⟩) (fun c k A B row hf hg hr => ⟨hf.1, by obtain ⟨x, av, kv, F, q1, q2, q3⟩ := hf.2; exact ⟨x, av, kv, F, q1, q2.grown hg hr, q3.grown hg (fun r e => (hr r e).2)⟩⟩) ⟨HA0, rfl⟩
    (fun x a' W => a' = { tmps := #[.agg #[.int .i64 t.k.1, .int .i64 t.k.2, .string t.tg, .string t.tx, .slice aa t.at_.length ca, .slice ak t.ks.length ck], .agg #[.int .i64 key.1, .int .i64 key.2], .pointer (some ⟨w.heap.size, 0, none⟩), .pointer (some ⟨kb, 0, none⟩), .pointer (some ⟨rb, 0, none⟩), .pointer (some ⟨ob, 0, none⟩), undef, .pointer (some ⟨x.b, x.o, none⟩), .func (.func 58) #[] #[.pointer (some ⟨pb, 0, none⟩)], .int .i64 (x.d : Int), .pointer (some ⟨x.b, x.o, none⟩), undef, undef, undef, undef, undef, undef, undef, undef, undef, undef, undef], defers := [] }) (fun x a' u A B row h5 _ _ => h5) ?assign ?body ?done ?stop
  clear HA0
  case assign =>
    rintro l k hk W K hA hK
    have hfin := hK _ W (KeepsFrom.refl _ _) (KpN.of_below (Below.refl _ _) (fun j q => Nat.lt_of_lt_of_le (hA.1.sl j q) hA.1.kp.1)) hA rfl
    have HFin := hide9 hfin
    clear hK hfin hA
    generalize xs[k] = x at *
    simp only [encN] at *
    gi_wp2
    first | exact HFin.out | (simp; exact HFin.out)
  case body =>
    rintro l k hk a' W hlD ⟨hrn, hfn⟩ rfl
    obtain ⟨hxv, hxS⟩ := HAt.out xs[k] (List.getElem_mem hk)
    have hnx := fnd_step hk hfn
    obtain ⟨x, ex⟩ : ∃ x, x = xs[k] := ⟨_, rfl⟩
    rw [← ex] at hxv hxS hnx ⊢
    have HNx := hide9 hnx
    have HC : Hid (FnS w W2 S rb ob #[.int .i64 0, .int .i64 0, .string ⟨#[]⟩, .string ⟨#[]⟩, .slice none 0 0, .slice none 0 0] false W) := hrn
    have HKn : Hid (KpN S W2.heap.size W W) := ⟨Nat.le_refl _, fun _ _ => rfl⟩
    have HKf : Hid (KeepsFrom W2.heap.size W W) := KeepsFrom.refl _ _
    have HXv : Hid (VAt S W2 x.t x.b x.o ∧ S x.b) := ⟨hxv, hxS⟩
    obtain ⟨_, _, _, _, kc0, kc1, _⟩ := hxv.cells
    have HX2 : Hid (W2.cell? ⟨x.b, x.o, none⟩ = some (.int .i64 x.t.k.1) ∧ W2.cell? ⟨x.b, x.o + 1, none⟩ = some (.int .i64 x.t.k.2) ∧ True) := ⟨kc0, kc1, trivial⟩
    clear hxv hxS hnx ex kc0 kc1 hrn hfn
    have HW9 : Hid (W2.heap.size ≤ W.heap.size) := HC.out.kp.1
    gi_wp2
    refine region_round_held (S := fun W' => 0 ≤ W'.heap.size) l (by kernel_rfl) (by kernel_rfl) (lets_then (lets_block lets_round)) (Nat.zero_le _) (fun hHeld => ?_)
    obtain ⟨Uk1u0, eW⟩ : ∃ X, X = W.drew := ⟨_, rfl⟩
    have hb : Below W.heap.size W Uk1u0 := by rw [eW]; exact (Below.refl _ _).drew
    replace HC : Hid (FnS w W2 S rb ob #[.int .i64 0, .int .i64 0, .string ⟨#[]⟩, .string ⟨#[]⟩, .slice none 0 0, .slice none 0 0] false Uk1u0) := HC.out.below hb
    replace HKn : Hid (KpN S W2.heap.size W Uk1u0) := HKn.out.trans (KpN.of_below hb fun k q => Nat.lt_of_lt_of_le (hSl k q) HW9.out)
    replace HKf : Hid (KeepsFrom W2.heap.size W Uk1u0) := HKf.out.trans (keepsFrom_below hb)
    rw [← eW] at hHeld ⊢
    clear eW hb
    refine tkW 0 (some 11) (v := ?_) ?_ hHeld ?_
    rotate_left
    · (intro ww _; go_simp; try with_reducible rfl)
    refine tkW 1 (some 12) (v := ?_) ?_ hHeld ?_
    rotate_left
    · (intro ww hSw; (try dsimp only at hSw); go_simp; try with_reducible rfl)
    refine tkW 2 (some 13) (v := ?_) ?_ hHeld ?_
    rotate_left
    · (intro ww _; go_simp; try with_reducible rfl)
    refine wpAnyH_ready (rs := [3, 4]) (by kernel_rfl) (by simp) ?_
    refine AllReadyH.cons (o := ⟨some 14, _, _, _, _, _⟩) rfl (fun K hK => ?_) (AllReadyH.cons (o := ⟨some 15, _, _, _, _, _⟩) rfl (fun K hK => ?_) AllReadyH.nil)
    · have q0 : Uk1u0.cell? ⟨x.b, x.o, none⟩ = some (.int .i64 x.t.k.1) := (HC.out.kp.cell (p := ⟨x.b, x.o, none⟩) HXv.out.2).trans HX2.out.1
      have q1 : Uk1u0.cell? ⟨x.b, x.o + 1, none⟩ = some (.int .i64 x.t.k.2) := (HC.out.kp.cell (p := ⟨x.b, x.o + 1, none⟩) HXv.out.2).trans HX2.out.2.1
      go_simp
      refine hK.out _ _ (Nat.zero_le _) (fun hHeld2 => ?_)
      clear hK K hHeld
      have hHeld := hHeld2
      clear hHeld2
      (try simp only [Act.put, List.setIfInBounds_toArray, List.set_cons_zero, List.set_cons_succ])
      clear q0 q1
      refine wpAnyH_ready (rs := [4]) (by kernel_rfl) (by simp) ?_
      refine AllReadyH.cons (o := ⟨some 15, _, _, _, _, _⟩) rfl (fun K hK => ?_) AllReadyH.nil
      have q0 : Uk1u0.cell? ⟨kb, 0, none⟩ = some (.int .i64 key.1) := (HC.out.kp.cell (p := ⟨kb, 0, none⟩) HK2.out.1).trans HK2.out.2.1
      have q1 : Uk1u0.cell? ⟨kb, 1, none⟩ = some (.int .i64 key.2) := (HC.out.kp.cell (p := ⟨kb, 1, none⟩) HK2.out.1).trans HK2.out.2.2
      go_simp
      refine hK.out _ _ (Nat.zero_le _) (fun hHeld2 => ?_)
      clear hK K hHeld
      have hHeld := hHeld2
      clear hHeld2
      (try simp only [Act.put, List.setIfInBounds_toArray, List.set_cons_zero, List.set_cons_succ])
      clear q0 q1
      refine tkW 5 (some 16) (v := .bool (decide ((x.t.k.1, x.t.k.2) = (key.1, key.2)))) ?_ hHeld ?_
      · (intro ww hSw; (try dsimp only at hSw); go_simp; by_cases e1 : x.t.k.1 = key.1 <;> by_cases e2 : x.t.k.2 = key.2 <;> simp [e1, e2])
      refine wpAnyH_done (by kernel_rfl) ?_ _
      clear hHeld
      obtain ⟨V, eV⟩ : ∃ X, X = Uk1u0 := ⟨_, rfl⟩
      rw [← eV] at HC HKn HKf ⊢
      clear eV
      by_cases hky : x.t.k = key
      · have hfd : fndT t key = some x.t := (by rw [fnd_all HXp.out]; have h9 := HNx.out; rw [if_pos hky] at h9; rw [fnd_prefix h9]; rfl)
        have HFd := hide9 hfd
        have q8 : decide ((x.t.k.1, x.t.k.2) = (key.1, key.2)) = true := decide_eq_true hky
        rw [q8]
        clear hfd hky q8
        obtain ⟨av0, kv0, hcl, hfd0⟩ := VAt_iff.1 (HXv.out.1.turn (G' := S) HC.out.kp.1 (fun j q _ => ⟨q, HC.out.kp.2 j q⟩) (HC.out.kp.2 _ HXv.out.2))
        have HV0 : Hid (VIs S V (.agg #[.int .i64 x.t.k.1, .int .i64 x.t.k.2, .string x.t.tg, .string x.t.tx, av0, kv0]) x.t) := VIs.of hfd0
        have p0 : V.cell? ⟨x.b, x.o, none⟩ = some (.int .i64 x.t.k.1) := hcl 0 _ rfl
        have p1 := hcl 1 _ rfl
        have p2 := hcl 2 _ rfl
        have p3 := hcl 3 _ rfl
        have p4 := hcl 4 _ rfl
        have p5 := hcl 5 _ rfl
        clear hcl hfd0
        gi_wp2_with fail
        clear p0 p1 p2 p3 p4 p5
        refine ⟨trivial, fun h => (by cases h), ?_⟩
        refine (CallsIn.inRound l (callsIn_wide.2 (copy_sep S x.t _ _ HV0.out))).mono ?_
        rintro e V2 ⟨v', F, rfl, _, hF, hb, av, kv, rfl, hsep⟩
        obtain ⟨sa, sc, sk, dk, ea, ek⟩ := SepF.form _ hsep
        subst ea ek
        have HSp : Hid (Sp W2.heap.size x.t (fun k => F k ∧ ∃ c t f, V2.heap[k]? = some (.cells c t f)) (.slice sa x.t.at_.length sc) (.slice sk x.t.ks.length dk) V2) := ⟨hsep.clean _, fun k q => ⟨Nat.le_trans HC.out.kp.1 (hF k q.1).1, (hF k q.1).2, q.2⟩⟩
        have HC2 : Hid (FnS w W2 S rb ob #[.int .i64 0, .int .i64 0, .string ⟨#[]⟩, .string ⟨#[]⟩, .slice none 0 0, .slice none 0 0] false V2) := HC.out.below hb
        have HKf2 := hide9 (HKf.out.trans (keepsFrom_below hb))
        obtain ⟨F2, eF2⟩ : ∃ F2, F2 = fun k => F k ∧ ∃ c t f, V2.heap[k]? = some (.cells c t f) := ⟨_, rfl⟩
        rw [← eF2] at HSp
        clear hF hb hsep HC HKf HKn eF2
        have z0 := HC2.out.ro
        have z1 := HC2.out.fo
        have z2 := HC2.out.fr
        obtain ⟨y0, y1, y2, y3, y4, y5⟩ := row6 HC2.out.r
        have hne1 := HC2.out.ne
        have hne2 : ob ≠ rb := fun e => hne1 e.symm
        gi_wp2
        skip
        obtain ⟨h8, h9, h10, h11⟩ := HC2.out.told true rfl
        refine ⟨HKf2.out.trans h9, rfl, x.t, _, _, F2, HFd.out, h8, HSp.out.same (Nat.le_of_eq h10.symm) fun k q => h11 k (fun e => ?_) (fun e => ?_)⟩
        · have := (HSp.out.2 k q).1; have := HC2.out.nr.2.2; omega
        · have := (HSp.out.2 k q).1; have := HC2.out.no.2.2; omega
      · have q8 : decide ((x.t.k.1, x.t.k.2) = (key.1, key.2)) = false := decide_eq_false hky
        have HN2 : Hid ((xs.take (k + 1)).find? (fun x => decide (x.t.k = key)) = none) := HNx.out.trans (if_neg hky)
        rw [q8]
        clear hky q8
        gi_wp2
        exact ⟨HKf.out, HKn.out, HC.out, HN2.out⟩
    · have q0 : Uk1u0.cell? ⟨kb, 0, none⟩ = some (.int .i64 key.1) := (HC.out.kp.cell (p := ⟨kb, 0, none⟩) HK2.out.1).trans HK2.out.2.1
      have q1 : Uk1u0.cell? ⟨kb, 1, none⟩ = some (.int .i64 key.2) := (HC.out.kp.cell (p := ⟨kb, 1, none⟩) HK2.out.1).trans HK2.out.2.2
      go_simp
      refine hK.out _ _ (Nat.zero_le _) (fun hHeld2 => ?_)
      clear hK K hHeld
      have hHeld := hHeld2
      clear hHeld2
      (try simp only [Act.put, List.setIfInBounds_toArray, List.set_cons_zero, List.set_cons_succ])
      clear q0 q1
      refine wpAnyH_ready (rs := [3]) (by kernel_rfl) (by simp) ?_
      refine AllReadyH.cons (o := ⟨some 14, _, _, _, _, _⟩) rfl (fun K hK => ?_) AllReadyH.nil
      have q0 : Uk1u0.cell? ⟨x.b, x.o, none⟩ = some (.int .i64 x.t.k.1) := (HC.out.kp.cell (p := ⟨x.b, x.o, none⟩) HXv.out.2).trans HX2.out.1
      have q1 : Uk1u0.cell? ⟨x.b, x.o + 1, none⟩ = some (.int .i64 x.t.k.2) := (HC.out.kp.cell (p := ⟨x.b, x.o + 1, none⟩) HXv.out.2).trans HX2.out.2.1
      go_simp
      refine hK.out _ _ (Nat.zero_le _) (fun hHeld2 => ?_)
      clear hK K hHeld
      have hHeld := hHeld2
      clear hHeld2
      (try simp only [Act.put, List.setIfInBounds_toArray, List.set_cons_zero, List.set_cons_succ])
      clear q0 q1
      refine tkW 5 (some 16) (v := .bool (decide ((x.t.k.1, x.t.k.2) = (key.1, key.2)))) ?_ hHeld ?_
      · (intro ww hSw; (try dsimp only at hSw); go_simp; by_cases e1 : x.t.k.1 = key.1 <;> by_cases e2 : x.t.k.2 = key.2 <;> simp [e1, e2])
      refine wpAnyH_done (by kernel_rfl) ?_ _
      clear hHeld
      obtain ⟨V, eV⟩ : ∃ X, X = Uk1u0 := ⟨_, rfl⟩
      rw [← eV] at HC HKn HKf ⊢
      clear eV
      by_cases hky : x.t.k = key
      · have hfd : fndT t key = some x.t := (by rw [fnd_all HXp.out]; have h9 := HNx.out; rw [if_pos hky] at h9; rw [fnd_prefix h9]; rfl)
        have HFd := hide9 hfd
        have q8 : decide ((x.t.k.1, x.t.k.2) = (key.1, key.2)) = true := decide_eq_true hky
        rw [q8]
        clear hfd hky q8
        obtain ⟨av0, kv0, hcl, hfd0⟩ := VAt_iff.1 (HXv.out.1.turn (G' := S) HC.out.kp.1 (fun j q _ => ⟨q, HC.out.kp.2 j q⟩) (HC.out.kp.2 _ HXv.out.2))
        have HV0 : Hid (VIs S V (.agg #[.int .i64 x.t.k.1, .int .i64 x.t.k.2, .string x.t.tg, .string x.t.tx, av0, kv0]) x.t) := VIs.of hfd0
        have p0 : V.cell? ⟨x.b, x.o, none⟩ = some (.int .i64 x.t.k.1) := hcl 0 _ rfl
        have p1 := hcl 1 _ rfl
        have p2 := hcl 2 _ rfl
        have p3 := hcl 3 _ rfl
        have p4 := hcl 4 _ rfl
        have p5 := hcl 5 _ rfl
        clear hcl hfd0
        gi_wp2_with fail
        clear p0 p1 p2 p3 p4 p5
        refine ⟨trivial, fun h => (by cases h), ?_⟩
        refine (CallsIn.inRound l (callsIn_wide.2 (copy_sep S x.t _ _ HV0.out))).mono ?_
        rintro e V2 ⟨v', F, rfl, _, hF, hb, av, kv, rfl, hsep⟩
        obtain ⟨sa, sc, sk, dk, ea, ek⟩ := SepF.form _ hsep
        subst ea ek
        have HSp : Hid (Sp W2.heap.size x.t (fun k => F k ∧ ∃ c t f, V2.heap[k]? = some (.cells c t f)) (.slice sa x.t.at_.length sc) (.slice sk x.t.ks.length dk) V2) := ⟨hsep.clean _, fun k q => ⟨Nat.le_trans HC.out.kp.1 (hF k q.1).1, (hF k q.1).2, q.2⟩⟩
        have HC2 : Hid (FnS w W2 S rb ob #[.int .i64 0, .int .i64 0, .string ⟨#[]⟩, .string ⟨#[]⟩, .slice none 0 0, .slice none 0 0] false V2) := HC.out.below hb
        have HKf2 := hide9 (HKf.out.trans (keepsFrom_below hb))
        obtain ⟨F2, eF2⟩ : ∃ F2, F2 = fun k => F k ∧ ∃ c t f, V2.heap[k]? = some (.cells c t f) := ⟨_, rfl⟩
        rw [← eF2] at HSp
        clear hF hb hsep HC HKf HKn eF2
        have z0 := HC2.out.ro
        have z1 := HC2.out.fo
        have z2 := HC2.out.fr
        obtain ⟨y0, y1, y2, y3, y4, y5⟩ := row6 HC2.out.r
        have hne1 := HC2.out.ne
        have hne2 : ob ≠ rb := fun e => hne1 e.symm
        gi_wp2
        skip
        obtain ⟨h8, h9, h10, h11⟩ := HC2.out.told true rfl
        refine ⟨HKf2.out.trans h9, rfl, x.t, _, _, F2, HFd.out, h8, HSp.out.same (Nat.le_of_eq h10.symm) fun k q => h11 k (fun e => ?_) (fun e => ?_)⟩
        · have := (HSp.out.2 k q).1; have := HC2.out.nr.2.2; omega
        · have := (HSp.out.2 k q).1; have := HC2.out.no.2.2; omega
      · have q8 : decide ((x.t.k.1, x.t.k.2) = (key.1, key.2)) = false := decide_eq_false hky
        have HN2 : Hid ((xs.take (k + 1)).find? (fun x => decide (x.t.k = key)) = none) := HNx.out.trans (if_neg hky)
        rw [q8]
        clear hky q8
        gi_wp2
        exact ⟨HKf.out, HKn.out, HC.out, HN2.out⟩
  case done =>
    rintro Dd W hDd ⟨hA, hfn⟩ hDf
    rw [List.take_length] at hfn
    have HFd : Hid (fndT t key = none) := (by show _ = _; rw [fnd_all HXp.out, hfn]; rfl)
    have HC2 := hide9 hA
    have HDf := hide9 hDf
    clear hA hDf hfn
    have z0 := HC2.out.ro
    have z1 := HC2.out.fo
    have z2 := HC2.out.fr
    obtain ⟨y0, y1, y2, y3, y4, y5⟩ := row6 HC2.out.r
    have hne1 := HC2.out.ne
    have hne2 : ob ≠ rb := fun e => hne1 e.symm
    gi_wp2
    skip
    obtain ⟨h8, h9, h10, h11⟩ := HC2.out.told false rfl
    have hDg := (h11 Dd (by have := HC2.out.nr.2.2; omega) (by have := HC2.out.no.2.2; omega)).trans HDf.out
    refine ⟨by simp, .inl ⟨_, _, rfl, run_takeDeferred hDg, ?_⟩⟩
    have hE := h8.grown (grownBy_putObj' _ Dd (.deferred none)) (fun r e => by cases e; exact ⟨hDd, _, hDg, rfl⟩)
    refine ⟨_, results_two rfl _ _ rb ob _ false rfl rfl (loadVN _ _ _ _ _ _ _ _ hE.r) hE.ro, tZ, _, _, fun _ => False, by rw [HFd.out]; rfl, by rw [HFd.out]; rfl, sepZ _, fun k q => q.elim, hE.bel⟩
  case stop =>
    rintro D c k W hD hk ⟨rfl, x, av, kv, F, hfd, hA, hsp⟩ hDf
    have HA := hide9 hA
    have HSp := hide9 hsp
    have HFd := hide9 hfd
    have HDf := hide9 hDf
    clear hA hsp hfd hDf
    gi_wp2
    refine ⟨by simp, .inl ⟨_, _, rfl, run_takeDeferred HDf.out, ?_⟩⟩
    have hg := grownBy_putObj' W D (.deferred none)
    have hE := HA.out.grown hg (fun r e => by cases e; exact ⟨hD, _, HDf.out, rfl⟩)
    have hSp := HSp.out.grown hg (fun r e => by cases e; exact ⟨_, HDf.out, rfl⟩)
    refine ⟨_, results_two rfl _ _ rb ob _ true rfl rfl (loadVN _ _ _ _ _ _ _ _ hE.r) hE.ro, x, av, kv, F, by rw [HFd.out]; rfl, by rw [HFd.out]; rfl, hSp.1, fun k q => ⟨Nat.le_trans hE.le (hSp.2 k q).1, (hSp.2 k q).2.1⟩, hE.bel⟩

theorem find_any (G : Nat → Prop) (t : VT) (key : St) (v : Value) (w : World) (h : VIs G w v t) (hsz : t.sz ≤ 1048576) : Calls Try.prog 30 #[v, .agg #[.int .i64 key.1, .int .i64 key.2]] w fun e w' => ∃ (x : VT) (av kv : Value) (F : Nat → Prop), e = .returned (.tuple #[.agg #[.int .i64 x.k.1, .int .i64 x.k.2, .string x.tg, .string x.tx, av, kv], .bool (fndT t key).isSome]) ∧ (fndT t key).getD tZ = x ∧ SepF x.sz w' F av kv x ∧ (∀ k, F k → w.heap.size ≤ k ∧ k < w'.heap.size) ∧ Below w.heap.size w w' := callsIn_wide.1 (find_in 5 (Nat.le_refl _) G t key v w h hsz)

end Go.Proofs.Ytnanlmmmppcipaa
