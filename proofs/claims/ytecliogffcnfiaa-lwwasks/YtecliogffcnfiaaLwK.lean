/- of: a node's registers, one by one. -/
import Derived.Test.YtecliogffcnfiaaLwJ
import Derived.Test.YtecliogffcnfiaaLaysZ
import Derived.Test.YtecliogffcnfiaaLwF
import Derived.Laws.EntriesVeiled
import Derived.Maps.AppendAt
import Derived.OwnWalkIn
import Derived.RangeFuncBox
import Derived.Sort.OwnSorted
namespace Go.Proofs.Ytecliogffcnfiaa
open Go.RowKit Go.Shelf Go.Sort
set_option linter.unusedVariables false
set_option linter.unusedSimpArgs false

attribute [local go_sem] Oper.semAt_some

/-- What of looks at. -/
def OfS (F : Nat → Prop) (Bx Bs rb : Nat) (s : St) (R : List Rg) (B : St → List ByteArray) (mh mn : Nat) (E : List (St × Value)) (W : World) : Prop :=
  BxC Bx [.pointer (some ⟨rb, 0, none⟩)] 27 W ∧ BxC Bs (stCells s) 24 W ∧ RegIs F W rb R B mh mn E
section
variable {F S : Nat → Prop} {Bx Bs rb : Nat} {s : St} {R : List Rg} {B : St → List ByteArray} {mh mn : Nat} {E : List (St × Value)} {W W' : World}
theorem OfS.keep (h : OfS F Bx Bs rb s R B mh mn E W) (hk : KeepsS S W W') (hx : S Bx) (hs : S Bs) (hF : ∀ k, F k → S k) : OfS F Bx Bs rb s R B mh mn E W' :=
  ⟨h.1.keep (hk.2 _ hx), h.2.1.keep (hk.2 _ hs), h.2.2.keep ⟨hk.1, fun k e => hk.2 k (hF k e)⟩⟩
theorem OfS.below (h : OfS F Bx Bs rb s R B mh mn E W) (hb : Below W.heap.size W W') : OfS F Bx Bs rb s R B mh mn E W' := ⟨h.1.below hb, h.2.1.below hb, h.2.2.below hb⟩
end
theorem vN_form {F : Nat → Prop} {w : World} {rb : Nat} {R : List Rg} {B : St → List ByteArray} {mh mn : Nat} {E : List (St × Value)} (h : RegIs F w rb R B mh mn E) (s : St) : ∃ a c, vN E s = .slice a (B s).length c := (h.ownN s).form
theorem of_srt {F : Nat → Prop} {w : World} {rb : Nat} {R : List Rg} {B : St → List ByteArray} {mh mn : Nat} {E : List (St × Value)} (h : RegIs F w rb R B mh mn E) (hn : NmsOk R B) (s : St) : (srtN (B s)).map (fun n => atR R (s, n)) = ofR R s :=
  of_names h.srt s _ (srtN_pw (h.bn s)) fun n => ((srtN_perm (B s)).mem_iff).trans (hn s n)

set_option maxRecDepth 100000 in
set_option maxHeartbeats 8000000 in
theorem of_in (n : Nat) (hn : 2 ≤ n) (l Bx Bs rb : Nat) (F S : Nat → Prop) (s : St) (R : List Rg) (B : St → List ByteArray) (mh mn : Nat) (E : List (St × Value)) (J Jx : Nat → World → Prop) (W : World)
    (hO : OfS F Bx Bs rb s R B mh mn E W) (hNm : NmsOk R B) (hlen : R.length ≤ 4096) (hSx : S Bx) (hSs : S Bs) (hSF : ∀ k, F k → S k) (hSl : ∀ k, S k → k < W.heap.size) (hJ : AbidesFrom W.heap.size J)
    (hY : ∀ k (h : k < (ofR R s).length) W1, J k W1 → YieldAt Fence.wide (n - 1) Try.prog l (encR (ofR R s)[k]) W1 fun e W' => (e = .returned (.bool true) ∧ J (k + 1) W' ∧ (KeepsS S W1 W' ∧ KindT 9 W1 W')) ∨ (e = .returned (.bool false) ∧ Jx (k + 1) W')) (h0 : J 0 W) :
    CallsIn Fence.wide n Try.prog 21 #[.func (.yield l) #[] #[], .pointer (some ⟨Bx, 0, none⟩), .pointer (some ⟨Bs, 0, none⟩)] W fun e W' => (∃ v, e = .returned v) ∧ (J (ofR R s).length W' ∨ ∃ k, k ≤ (ofR R s).length ∧ Jx k W') := by
  have HY : Hid (∀ k (h : k < (ofR R s).length) W1, J k W1 → YieldAt Fence.wide (n - 1) Try.prog l (encR (ofR R s)[k]) W1 fun e W' => (e = .returned (.bool true) ∧ J (k + 1) W' ∧ (KeepsS S W1 W' ∧ KindT 9 W1 W')) ∨ (e = .returned (.bool false) ∧ Jx (k + 1) W')) := hY
  have HD : Hid ((srtN (B s)).map (fun n => atR R (s, n)) = ofR R s) := of_srt hO.2.2 hNm s
  have HBl : Hid ((B s).length ≤ 4096) := by
    have h1 := congrArg List.length HD.out
    rw [List.length_map, srtN_len] at h1
    have h2 := of_length R s
    show _ ≤ _
    omega
  have HDl : Hid ((srtN (B s)).length ≤ 4096) := by (show _ ≤ _; rw [srtN_len]; exact HBl.out)
  have HJ : Hid (AbidesFrom W.heap.size J) := hJ
  have HSl : Hid (∀ k, S k → k < W.heap.size) := hSl
  have HS3 : Hid (S Bx ∧ S Bs ∧ ∀ k, F k → S k) := ⟨hSx, hSs, hSF⟩
  have HJr : Hid (JH W.heap.size J 0 W) := ⟨h0, hJ⟩
  have HKr : Hid (KeepsH S W W) := ⟨KeepsS.refl _ _, hSl⟩
  obtain ⟨aN, cN, eN⟩ := vN_form hO.2.2 s
  have HO : Hid (OfS F Bx Bs rb s R B mh mn E W) := hO
  have p0 := hO.1.cell 0 _ rfl
  clear hY hJ hSl hSx hSs hSF hO h0 hNm
  refine callsIn_of_wp Try.func21 rfl trivial ?_ rfl
  simp only [Try.ntmps21, List.size_toArray, List.length_cons, List.length_nil, Nat.reduceAdd, Nat.reduceSub, Array.replicate_succ, Array.replicate_zero, List.push_toArray, List.append_toArray, List.nil_append, List.cons_append]
  gi_wp2
  clear p0
  refine wpIn_wide.2 ?_
  refine wp_region_held_drew (S := fun W' => OfS F Bx Bs rb s R B mh mn E W') (by kernel_rfl) (HO.out.below (Below.refl _ _).drew) (fun hHeld => ?_)
  obtain ⟨Uo1u0, eW⟩ : ∃ X, X = W.drew := ⟨_, rfl⟩
  have hb : Below W.heap.size W Uo1u0 := by rw [eW]; exact (Below.refl _ _).drew
  replace HJr : Hid (JH W.heap.size J 0 Uo1u0) := HJr.out.below hb
  replace HKr : Hid (KeepsH S W Uo1u0) := HKr.out.below hb
  rw [← eW] at hHeld ⊢
  clear eW hb
  refine tkW 0 (some 8) (v := ?_) ?_ hHeld ?_
  rotate_left
  · (intro ww hSw; (try dsimp only at hSw); have p0 := hSw.1.cell 0 _ rfl; go_simp; try with_reducible rfl)
  refine tkW 1 (some 9) (v := ?_) ?_ hHeld ?_
  rotate_left
  · (intro ww hSw; (try dsimp only at hSw); go_simp; try with_reducible rfl)
  refine tkW 2 (some 10) (v := ?_) ?_ hHeld ?_
  rotate_left
  · (intro ww _; go_simp; try with_reducible rfl)
  refine tkW 3 (some 11) (v := ?_) ?_ hHeld ?_
  rotate_left
  · (intro ww hSw; (try dsimp only at hSw); have c1 := hSw.2.2.c1; go_simp; try with_reducible rfl)
  refine tkW 4 (some 12) (v := ?_) ?_ hHeld ?_
  rotate_left
  · (intro ww hSw; (try dsimp only at hSw); have q0 := hSw.2.1.cell 0 _ rfl; have q1 := hSw.2.1.cell 1 _ rfl; go_simp; try with_reducible rfl)
  refine tkW 5 (some 13) (v := ?_) ?_ hHeld ?_
  rotate_left
  · (intro ww hSw; (try dsimp only at hSw); have hlk : (Instr.lookup 49 (.map (some mn)) (.agg #[.int .i64 s.1, .int .i64 s.2]) false).run Try.prog ww = .ok (.slice aN (B s).length cN) ww := (by rw [← eN]; exact hSw.2.2.lookN s); go_simp; try with_reducible rfl)
  refine tkW 9 (some 17) (v := ?_) ?_ hHeld ?_
  rotate_left
  · (intro ww _; go_simp; try with_reducible rfl)
  refine wpAnyH_ready (rs := [6]) (by kernel_rfl) (by simp) ?_
  refine AllReadyH.cons (o := ⟨some 14, _, _, _, _, _⟩) rfl (fun K hK => ?_) AllReadyH.nil
  go_simp
  refine (valS_any _ _ ⟨_, _, _, rfl⟩).mono ?_
  rintro e Uo1u1 ⟨rfl, eWv⟩
  obtain ⟨bv, ebv⟩ : ∃ b, b = Uo1u0.heap.size := ⟨_, rfl⟩
  have hb : Below Uo1u0.heap.size Uo1u0 Uo1u1 := by rw [eWv]; exact (Below.refl _ _).alloc (Nat.le_refl _) _
  have HV : Hid (BxC bv [.slice aN (B s).length cN] 61 Uo1u1) := by rw [eWv, ebv]; exact BxC.new _ _ _
  clear eWv
  rw [← ebv]
  clear ebv
  (try go_wp2_with fail)
  refine hK.out _ _ (⟨hHeld.1.below hb, hHeld.2.1.below hb, hHeld.2.2.below hb⟩) (fun hHeld2 => ?_)
  clear hK K hHeld
  have hHeld := hHeld2
  clear hHeld2
  (try simp only [Act.put, List.setIfInBounds_toArray, List.set_cons_zero, List.set_cons_succ])
  replace HJr : Hid (JH W.heap.size J 0 Uo1u1) := HJr.out.below hb
  replace HKr : Hid (KeepsH S W Uo1u1) := HKr.out.below hb
  clear hb
  refine wpAnyH_ready (rs := [7]) (by kernel_rfl) (by simp) ?_
  refine AllReadyH.cons (o := ⟨some 15, _, _, _, _, _⟩) rfl (fun K hK => ?_) AllReadyH.nil
  go_simp
  refine (sorted_any bv cN aN (B s) (fun k => k < Uo1u1.heap.size) Uo1u1 HV.out.lt (fun _ h => h) (HV.out.cell 0 _ rfl) ((by rw [← eN]; exact (hHeld.2.2.ownN s).lsE nmCells_len (by have := HBl.out; omega) (fun k e => hHeld.2.2.lt k (hHeld.2.2.inN e).1))) (by have := HBl.out; omega)).mono ?_
  rintro e Uo1u2 ⟨vs, rfl, ho, hb⟩
  obtain ⟨aS, cS, eS⟩ := ho.form
  subst eS
  have HN : Hid (OwnNm 0 Uo1u2 (.slice aS (srtN (B s)).length cS) (srtN (B s))) := ownsRow_low ho (Nat.zero_le _)
  clear ho
  (try go_wp2_with fail)
  refine hK.out _ _ (⟨hHeld.1.below hb, hHeld.2.1.below hb, hHeld.2.2.below hb⟩) (fun hHeld2 => ?_)
  clear hK K hHeld
  have hHeld := hHeld2
  clear hHeld2
  (try simp only [Act.put, List.setIfInBounds_toArray, List.set_cons_zero, List.set_cons_succ])
  replace HJr : Hid (JH W.heap.size J 0 Uo1u2) := HJr.out.below hb
  replace HKr : Hid (KeepsH S W Uo1u2) := HKr.out.below hb
  clear HV
  clear hb
  refine tkW 8 (some 16) (v := ?_) ?_ hHeld ?_
  rotate_left
  · (intro ww hSw; (try dsimp only at hSw); go_simp; try with_reducible rfl)
  refine wpAnyH_done (by kernel_rfl) ?_ _
  have HO2 : Hid (OfS F Bx Bs rb s R B mh mn E Uo1u2) := hHeld
  clear hHeld HO
  skip
  obtain ⟨W2, eW2⟩ : ∃ X, X = Uo1u2 := ⟨_, rfl⟩
  rw [← eW2] at HO2 HN HJr HKr ⊢
  clear eW2
  obtain ⟨N, eNN⟩ : ∃ N, N = srtN (B s) := ⟨_, rfl⟩
  rw [← eNN] at HN HD HDl ⊢
  clear eNN
  gi_wp2
  gi_loopw [17] (fun i wr => ∃ k : Nat, k ≤ N.length ∧ i = .int .i64 k ∧ Hid (JH W.heap.size J k wr) ∧ Hid (KeepsH S W wr) ∧ Hid (KindT 9 W2 wr) ∧ Hid (OfS F Bx Bs rb s R B mh mn E wr)) (fun i _ => N.length - (intOf i).toNat)
  case atStart => exact ⟨0, Nat.zero_le _, rfl, HJr, HKr, fun k cs fr e => e, HO2⟩
  case round =>
    clear HJr HKr HO2
    obtain ⟨k, hk, rfl, HJr, HKr, HTr, HOr⟩ := hrel
    by_cases hlt : k < N.length
    · have hN2 : OwnNm 0 wr (.slice aS N.length cS) N := ownsRow_keep HN.out fun j e => (by obtain ⟨cur, hc⟩ := ownsRow_type HN.out j e; exact (HTr.out j _ _ hc).trans hc.symm)
      obtain ⟨a', cap', e', hc', hl', hrow⟩ := hN2.lsE (G := fun _ => True) nmCells_len (by have := HDl.out; omega) (fun _ _ => trivial)
      injection e' with e1 _ e3
      subst e1 e3
      obtain ⟨b, o, rfl, hSb, hbl, hcs⟩ := hrow.resolve_left (by intro e; subst e; simp at hlt)
      have y0 : wr.cell? ⟨b, o + k, none⟩ = some (.string N[k]) := (by have h9 := hcs k hlt 0 _ rfl; rw [Nat.mul_one] at h9; exact h9)
      have kk1 : (k : Int) < (N.length : Int) := by omega
      have kk0 : (0 : Int) ≤ (k : Int) := by omega
      have HJl : Hid (k + 1 ≤ N.length) := hlt
      have hYk : ∀ W1, J k W1 → YieldAt Fence.wide (n - 1) Try.prog l (encR (atR R (s, N[k]))) W1 fun e W' => (e = .returned (.bool true) ∧ J (k + 1) W' ∧ (KeepsS S W1 W' ∧ KindT 9 W1 W')) ∨ (e = .returned (.bool false) ∧ Jx (k + 1) W') := (by have h9 := HY.out k (by rw [← HD.out, List.length_map]; exact hlt); have e9 : (ofR R s)[k]'(by rw [← HD.out, List.length_map]; exact hlt) = atR R (s, N[k]) := (by simp only [← HD.out, List.getElem_map]; try rfl); rw [e9] at h9; exact h9)
      have HLn : Hid (k + 1 ≤ (ofR R s).length) := (by rw [← HD.out, List.length_map]; exact hlt)
      clear hcs hrow hc' hl' hN2 hSb hbl
      generalize N[k] = x at *
      gi_wp2
      clear y0
      obtain ⟨z, ez⟩ : ∃ z, z = atR R (s, x) := ⟨_, rfl⟩
      obtain ⟨W4, eW4⟩ : ∃ X, X = wr.drew := ⟨_, rfl⟩
      have hb4 : Below wr.heap.size wr W4 := by rw [eW4]; exact (Below.refl _ _).drew
      have HKx : Hid (KeepsH S W W4) := HKr.out.below hb4
      have HJx : Hid (JH W.heap.size J k W4) := HJr.out.below hb4
      have HTx : Hid (KindT 9 W2 W4) := HTr.out.trans (KindT.below hb4)
      have HOx : Hid (OfS F Bx Bs rb s R B mh mn E W4) := HOr.out.below hb4
      have hlk : (Instr.lookup 48 (.map (some mh)) (.agg #[.int .i64 s.1, .int .i64 s.2, .string x]) false).run Try.prog W4 = .ok (.agg #[.int .i64 z.nd.1, .int .i64 z.nd.2, .string z.nm, .int .i64 z.at_.1, .int .i64 z.at_.2, .string z.vl, .bool z.gn]) W4 := (by rw [ez]; exact HOx.out.2.2.hm.look1 HOx.out.2.2.srt (s, x))
      obtain ⟨fn, tmps, assign, body, hy2, hRd⟩ := hYk _ HJx.out.1
      rw [← ez] at hy2
      simp only [encR] at hy2
      have p0 := HOx.out.1.cell 0 _ rfl
      have q0 := HOx.out.2.1.cell 0 _ rfl
      have q1 := HOx.out.2.1.cell 1 _ rfl
      have c0 := HOx.out.2.2.c0
      refine wpIn_region_any (by kernel_rfl) ?_
      (try (change wpAnyIn _ _ _ _ _ _ _ _ _ (World.drew _)))
      rw [← eW4]
      clear eW4 hb4 hYk HKr HJr HTr HOr ez
      refine wpAnyIn_take (i := 0) (v := ?_) rfl rfl (by kernel_rfl) (by kernel_rfl) (by kernel_rfl) (fun _ _ _ h => h) ⟨Or.inl ⟨by rfl, ?_⟩, fun _ => rfl⟩ ?_
      rotate_left
      · (intro ww; go_simp; try with_reducible rfl)
      (try simp only [Act.put, List.setIfInBounds_toArray, List.set_cons_zero, List.set_cons_succ])
      refine wpAnyIn_take (i := 6) (v := ?_) rfl rfl (by kernel_rfl) (by kernel_rfl) (by kernel_rfl) (fun _ _ _ h => h) ⟨Or.inl ⟨by rfl, ?_⟩, fun _ => rfl⟩ ?_
      rotate_left
      · (intro ww; go_simp; try with_reducible rfl)
      (try simp only [Act.put, List.setIfInBounds_toArray, List.set_cons_zero, List.set_cons_succ])
      refine wpAnyIn_ready (rs := [1, 5]) (by kernel_rfl) (by simp) ?_
      refine AllReadyIn.cons rfl (fun K hK => ?_) (AllReadyIn.cons rfl (fun K hK => ?_) AllReadyIn.nil)
      · go_simp
        refine hK _ _ ?_
        clear hK K
        (try simp only [Act.put, List.setIfInBounds_toArray, List.set_cons_zero, List.set_cons_succ])
        refine wpAnyIn_take (i := 2) (v := ?_) rfl rfl (by kernel_rfl) (by kernel_rfl) (by kernel_rfl) (fun _ _ _ h => h) ⟨Or.inl ⟨by rfl, ?_⟩, fun _ => rfl⟩ ?_
        rotate_left
        · (intro ww; go_simp; try with_reducible rfl)
        (try simp only [Act.put, List.setIfInBounds_toArray, List.set_cons_zero, List.set_cons_succ])
        refine wpAnyIn_take (i := 3) (v := ?_) rfl rfl (by kernel_rfl) (by kernel_rfl) (by kernel_rfl) (fun _ _ _ h => h) ⟨Or.inl ⟨by rfl, ?_⟩, fun _ => rfl⟩ ?_
        rotate_left
        · (intro ww; go_simp; try with_reducible rfl)
        (try simp only [Act.put, List.setIfInBounds_toArray, List.set_cons_zero, List.set_cons_succ])
        refine wpAnyIn_ready (rs := [4, 5]) (by kernel_rfl) (by simp) ?_
        refine AllReadyIn.cons rfl (fun K hK => ?_) (AllReadyIn.cons rfl (fun K hK => ?_) AllReadyIn.nil)
        · go_simp
          refine hK _ _ ?_
          clear hK K
          (try simp only [Act.put, List.setIfInBounds_toArray, List.set_cons_zero, List.set_cons_succ])
          refine wpAnyIn_ready (rs := [5]) (by kernel_rfl) (by simp) ?_
          refine AllReadyIn.cons rfl (fun K hK => ?_) AllReadyIn.nil
          go_simp
          refine hK _ _ ?_
          clear hK K
          (try simp only [Act.put, List.setIfInBounds_toArray, List.set_cons_zero, List.set_cons_succ])
          refine wpAnyIn_take (i := 7) (v := ?_) rfl rfl (by kernel_rfl) (by kernel_rfl) (by kernel_rfl) (fun _ _ _ h => h) ⟨Or.inl ⟨by rfl, ?_⟩, fun _ => rfl⟩ ?_
          rotate_left
          · (intro ww; go_simp; try with_reducible rfl)
          (try simp only [Act.put, List.setIfInBounds_toArray, List.set_cons_zero, List.set_cons_succ])
          refine wpAnyIn_ready (rs := [8]) (by kernel_rfl) (by simp) ?_
          refine AllReadyIn.cons rfl (fun K hK => ?_) AllReadyIn.nil
          go_simp
          refine hK _ _ ?_
          clear hK K
          (try simp only [Act.put, List.setIfInBounds_toArray, List.set_cons_zero, List.set_cons_succ])
          refine wpAnyIn_ready (rs := [9]) (by kernel_rfl) (by simp) ?_
          refine AllReadyIn.cons rfl (fun K hK => ?_) AllReadyIn.nil
          go_simp
          refine ⟨fun _ => by omega, hRd.mono ?_⟩
          rintro e W3 (⟨rfl, hJ3, hk3⟩ | ⟨rfl, hJx3⟩)
          · have HJ3 : Hid (JH W.heap.size J (k + 1) W3) := ⟨hJ3, HJ.out⟩
            have HK3 : Hid (KeepsH S W W3) := ⟨HKx.out.1.trans hk3.1, HSl.out⟩
            have HT3 : Hid (KindT 9 W2 W3) := HTx.out.trans hk3.2
            have HO3 : Hid (OfS F Bx Bs rb s R B mh mn E W3) := HOx.out.keep hk3.1 HS3.out.1 HS3.out.2.1 HS3.out.2.2
            clear hJ3 hk3 hy2 hlk
            refine hK _ _ ?_
            clear hK K
            (try simp only [Act.put, List.setIfInBounds_toArray, List.set_cons_zero, List.set_cons_succ])
            refine wpAnyIn_take (i := 10) (v := ?_) rfl rfl (by kernel_rfl) (by kernel_rfl) (by kernel_rfl) (fun _ _ _ h => h) ⟨Or.inl ⟨by rfl, ?_⟩, fun _ => rfl⟩ ?_
            rotate_left
            · (intro ww; go_simp; try with_reducible rfl)
            (try simp only [Act.put, List.setIfInBounds_toArray, List.set_cons_zero, List.set_cons_succ])
            refine wpAnyIn_done (by kernel_rfl) ?_ _
            have hDl : N.length ≤ 4096 := HDl.out
            gi_wp2
            go_roundw
            case rel => exact ⟨k + 1, by omega, by go_num, HJ3, HK3, HT3, HO3⟩
            case measure => simp [intOf]; omega
          · have HJ3 : Hid (Jx (k + 1) W3) := hJx3
            clear hJx3 hy2 hlk
            refine hK _ _ ?_
            clear hK K
            (try simp only [Act.put, List.setIfInBounds_toArray, List.set_cons_zero, List.set_cons_succ])
            refine wpAnyIn_take (i := 10) (v := ?_) rfl rfl (by kernel_rfl) (by kernel_rfl) (by kernel_rfl) (fun _ _ _ h => h) ⟨Or.inl ⟨by rfl, ?_⟩, fun _ => rfl⟩ ?_
            rotate_left
            · (intro ww; go_simp; try with_reducible rfl)
            (try simp only [Act.put, List.setIfInBounds_toArray, List.set_cons_zero, List.set_cons_succ])
            refine wpAnyIn_done (by kernel_rfl) ?_ _
            gi_wp2
            refine bodyPost_ret (results_none rfl _ _ _) rfl ?_
            exact ⟨⟨_, rfl⟩, .inr ⟨_, HLn.out, HJ3.out⟩⟩
        · go_simp
          refine hK _ _ ?_
          clear hK K
          (try simp only [Act.put, List.setIfInBounds_toArray, List.set_cons_zero, List.set_cons_succ])
          refine wpAnyIn_take (i := 7) (v := ?_) rfl rfl (by kernel_rfl) (by kernel_rfl) (by kernel_rfl) (fun _ _ _ h => h) ⟨Or.inl ⟨by rfl, ?_⟩, fun _ => rfl⟩ ?_
          rotate_left
          · (intro ww; go_simp; try with_reducible rfl)
          (try simp only [Act.put, List.setIfInBounds_toArray, List.set_cons_zero, List.set_cons_succ])
          refine wpAnyIn_ready (rs := [4]) (by kernel_rfl) (by simp) ?_
          refine AllReadyIn.cons rfl (fun K hK => ?_) AllReadyIn.nil
          go_simp
          refine hK _ _ ?_
          clear hK K
          (try simp only [Act.put, List.setIfInBounds_toArray, List.set_cons_zero, List.set_cons_succ])
          refine wpAnyIn_ready (rs := [8]) (by kernel_rfl) (by simp) ?_
          refine AllReadyIn.cons rfl (fun K hK => ?_) AllReadyIn.nil
          go_simp
          refine hK _ _ ?_
          clear hK K
          (try simp only [Act.put, List.setIfInBounds_toArray, List.set_cons_zero, List.set_cons_succ])
          refine wpAnyIn_ready (rs := [9]) (by kernel_rfl) (by simp) ?_
          refine AllReadyIn.cons rfl (fun K hK => ?_) AllReadyIn.nil
          go_simp
          refine ⟨fun _ => by omega, hRd.mono ?_⟩
          rintro e W3 (⟨rfl, hJ3, hk3⟩ | ⟨rfl, hJx3⟩)
          · have HJ3 : Hid (JH W.heap.size J (k + 1) W3) := ⟨hJ3, HJ.out⟩
            have HK3 : Hid (KeepsH S W W3) := ⟨HKx.out.1.trans hk3.1, HSl.out⟩
            have HT3 : Hid (KindT 9 W2 W3) := HTx.out.trans hk3.2
            have HO3 : Hid (OfS F Bx Bs rb s R B mh mn E W3) := HOx.out.keep hk3.1 HS3.out.1 HS3.out.2.1 HS3.out.2.2
            clear hJ3 hk3 hy2 hlk
            refine hK _ _ ?_
            clear hK K
            (try simp only [Act.put, List.setIfInBounds_toArray, List.set_cons_zero, List.set_cons_succ])
            refine wpAnyIn_take (i := 10) (v := ?_) rfl rfl (by kernel_rfl) (by kernel_rfl) (by kernel_rfl) (fun _ _ _ h => h) ⟨Or.inl ⟨by rfl, ?_⟩, fun _ => rfl⟩ ?_
            rotate_left
            · (intro ww; go_simp; try with_reducible rfl)
            (try simp only [Act.put, List.setIfInBounds_toArray, List.set_cons_zero, List.set_cons_succ])
            refine wpAnyIn_done (by kernel_rfl) ?_ _
            have hDl : N.length ≤ 4096 := HDl.out
            gi_wp2
            go_roundw
            case rel => exact ⟨k + 1, by omega, by go_num, HJ3, HK3, HT3, HO3⟩
            case measure => simp [intOf]; omega
          · have HJ3 : Hid (Jx (k + 1) W3) := hJx3
            clear hJx3 hy2 hlk
            refine hK _ _ ?_
            clear hK K
            (try simp only [Act.put, List.setIfInBounds_toArray, List.set_cons_zero, List.set_cons_succ])
            refine wpAnyIn_take (i := 10) (v := ?_) rfl rfl (by kernel_rfl) (by kernel_rfl) (by kernel_rfl) (fun _ _ _ h => h) ⟨Or.inl ⟨by rfl, ?_⟩, fun _ => rfl⟩ ?_
            rotate_left
            · (intro ww; go_simp; try with_reducible rfl)
            (try simp only [Act.put, List.setIfInBounds_toArray, List.set_cons_zero, List.set_cons_succ])
            refine wpAnyIn_done (by kernel_rfl) ?_ _
            gi_wp2
            refine bodyPost_ret (results_none rfl _ _ _) rfl ?_
            exact ⟨⟨_, rfl⟩, .inr ⟨_, HLn.out, HJ3.out⟩⟩
      · go_simp
        refine hK _ _ ?_
        clear hK K
        (try simp only [Act.put, List.setIfInBounds_toArray, List.set_cons_zero, List.set_cons_succ])
        refine wpAnyIn_take (i := 7) (v := ?_) rfl rfl (by kernel_rfl) (by kernel_rfl) (by kernel_rfl) (fun _ _ _ h => h) ⟨Or.inl ⟨by rfl, ?_⟩, fun _ => rfl⟩ ?_
        rotate_left
        · (intro ww; go_simp; try with_reducible rfl)
        (try simp only [Act.put, List.setIfInBounds_toArray, List.set_cons_zero, List.set_cons_succ])
        refine wpAnyIn_ready (rs := [1]) (by kernel_rfl) (by simp) ?_
        refine AllReadyIn.cons rfl (fun K hK => ?_) AllReadyIn.nil
        go_simp
        refine hK _ _ ?_
        clear hK K
        (try simp only [Act.put, List.setIfInBounds_toArray, List.set_cons_zero, List.set_cons_succ])
        refine wpAnyIn_take (i := 2) (v := ?_) rfl rfl (by kernel_rfl) (by kernel_rfl) (by kernel_rfl) (fun _ _ _ h => h) ⟨Or.inl ⟨by rfl, ?_⟩, fun _ => rfl⟩ ?_
        rotate_left
        · (intro ww; go_simp; try with_reducible rfl)
        (try simp only [Act.put, List.setIfInBounds_toArray, List.set_cons_zero, List.set_cons_succ])
        refine wpAnyIn_take (i := 3) (v := ?_) rfl rfl (by kernel_rfl) (by kernel_rfl) (by kernel_rfl) (fun _ _ _ h => h) ⟨Or.inl ⟨by rfl, ?_⟩, fun _ => rfl⟩ ?_
        rotate_left
        · (intro ww; go_simp; try with_reducible rfl)
        (try simp only [Act.put, List.setIfInBounds_toArray, List.set_cons_zero, List.set_cons_succ])
        refine wpAnyIn_ready (rs := [4]) (by kernel_rfl) (by simp) ?_
        refine AllReadyIn.cons rfl (fun K hK => ?_) AllReadyIn.nil
        go_simp
        refine hK _ _ ?_
        clear hK K
        (try simp only [Act.put, List.setIfInBounds_toArray, List.set_cons_zero, List.set_cons_succ])
        refine wpAnyIn_ready (rs := [8]) (by kernel_rfl) (by simp) ?_
        refine AllReadyIn.cons rfl (fun K hK => ?_) AllReadyIn.nil
        go_simp
        refine hK _ _ ?_
        clear hK K
        (try simp only [Act.put, List.setIfInBounds_toArray, List.set_cons_zero, List.set_cons_succ])
        refine wpAnyIn_ready (rs := [9]) (by kernel_rfl) (by simp) ?_
        refine AllReadyIn.cons rfl (fun K hK => ?_) AllReadyIn.nil
        go_simp
        refine ⟨fun _ => by omega, hRd.mono ?_⟩
        rintro e W3 (⟨rfl, hJ3, hk3⟩ | ⟨rfl, hJx3⟩)
        · have HJ3 : Hid (JH W.heap.size J (k + 1) W3) := ⟨hJ3, HJ.out⟩
          have HK3 : Hid (KeepsH S W W3) := ⟨HKx.out.1.trans hk3.1, HSl.out⟩
          have HT3 : Hid (KindT 9 W2 W3) := HTx.out.trans hk3.2
          have HO3 : Hid (OfS F Bx Bs rb s R B mh mn E W3) := HOx.out.keep hk3.1 HS3.out.1 HS3.out.2.1 HS3.out.2.2
          clear hJ3 hk3 hy2 hlk
          refine hK _ _ ?_
          clear hK K
          (try simp only [Act.put, List.setIfInBounds_toArray, List.set_cons_zero, List.set_cons_succ])
          refine wpAnyIn_take (i := 10) (v := ?_) rfl rfl (by kernel_rfl) (by kernel_rfl) (by kernel_rfl) (fun _ _ _ h => h) ⟨Or.inl ⟨by rfl, ?_⟩, fun _ => rfl⟩ ?_
          rotate_left
          · (intro ww; go_simp; try with_reducible rfl)
          (try simp only [Act.put, List.setIfInBounds_toArray, List.set_cons_zero, List.set_cons_succ])
          refine wpAnyIn_done (by kernel_rfl) ?_ _
          have hDl : N.length ≤ 4096 := HDl.out
          gi_wp2
          go_roundw
          case rel => exact ⟨k + 1, by omega, by go_num, HJ3, HK3, HT3, HO3⟩
          case measure => simp [intOf]; omega
        · have HJ3 : Hid (Jx (k + 1) W3) := hJx3
          clear hJx3 hy2 hlk
          refine hK _ _ ?_
          clear hK K
          (try simp only [Act.put, List.setIfInBounds_toArray, List.set_cons_zero, List.set_cons_succ])
          refine wpAnyIn_take (i := 10) (v := ?_) rfl rfl (by kernel_rfl) (by kernel_rfl) (by kernel_rfl) (fun _ _ _ h => h) ⟨Or.inl ⟨by rfl, ?_⟩, fun _ => rfl⟩ ?_
          rotate_left
          · (intro ww; go_simp; try with_reducible rfl)
          (try simp only [Act.put, List.setIfInBounds_toArray, List.set_cons_zero, List.set_cons_succ])
          refine wpAnyIn_done (by kernel_rfl) ?_ _
          gi_wp2
          refine bodyPost_ret (results_none rfl _ _ _) rfl ?_
          exact ⟨⟨_, rfl⟩, .inr ⟨_, HLn.out, HJ3.out⟩⟩
    · have HE : Hid (J N.length wr) := by (have h9 := HJr.out.1; have e9 : k = N.length := (by omega); rw [e9] at h9; exact h9)
      have HLn : Hid (N.length = (ofR R s).length) := by (show _ = _; rw [← HD.out, List.length_map])
      gi_wp2
      go_end0
      exact ⟨⟨_, rfl⟩, .inl (by rw [← HLn.out]; exact HE.out)⟩

end Go.Proofs.Ytecliogffcnfiaa
