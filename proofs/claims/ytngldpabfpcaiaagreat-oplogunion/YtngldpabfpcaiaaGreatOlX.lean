/- What the iterator of missing changes does. -/
import Derived.Test.YtngldpabfpcaiaaGreatTk
import Derived.Test.YtngldpabfpcaiaaGreatOlR
namespace Go.Proofs.YtngldpabfpcaiaaGreat
open Go.RowKit Go.Shelf
set_option linter.unusedVariables false
set_option linter.unusedSimpArgs false

attribute [local go_sem] Oper.semAt_some

/-- A change as yield's argument. -/
def encH (x : Ch × Value) : Array Value := #[chV x.1 x.2]
/-- The clock's value that a log keeps with a change. -/
def dvOf (D : List (Ch × Value)) (c : Ch) : Value := match getD D c.ac c.ar with | some x => x.2 | none => .slice none 0 0
/-- What somebody lacks, as the log keeps it. -/
def lackE (D : List (Ch × Value)) (L : List Ch) (kn : List Int) : List (Ch × Value) := (lackL L kn).map fun c => (c, dvOf D c)
theorem lackE_length (D : List (Ch × Value)) (L : List Ch) (kn : List Int) : (lackE D L kn).length = (lackL L kn).length := by simp [lackE]
theorem lack_next {L : List Ch} {kn : List Int} {k : Nat} (h : k < L.length) : lackL (L.take (k + 1)) kn = lackL (L.take k) kn ++ (if withinB L[k] kn = true then [] else [L[k]]) := by
  unfold lackL
  rw [List.take_succ_eq_append_getElem h, List.filter_append]
  cases hw : withinB L[k] kn <;> simp [hw]
theorem lack_pre (L : List Ch) (kn : List Int) (k : Nat) : lackL (L.take k) kn <+: lackL L kn := List.IsPrefix.filter _ (List.take_prefix k L)
theorem lack_at {L : List Ch} {kn : List Int} {k : Nat} (h : k < L.length) (hw : withinB L[k] kn = false) : ∃ hj : (lackL (L.take k) kn).length < (lackL L kn).length, (lackL L kn)[(lackL (L.take k) kn).length] = L[k] := by
  have h1 := lack_next (kn := kn) h
  rw [hw] at h1
  have h2 := lack_pre L kn (k + 1)
  rw [h1] at h2
  have h3 : (lackL (L.take k) kn).length < (lackL (L.take k) kn ++ (if false = true then [] else [L[k]])).length := by simp
  have h4 := h2.length_le
  have h5 := h2.getElem h3
  refine ⟨by omega, ?_⟩
  rw [← h5]
  simp
theorem getD_of {F : Nat → Prop} {w : World} {lb : Nat} {room : Int} {L : List Ch} {mb : Nat} {ord : Value} {own : List Value} {D : List (Ch × Value)} (h : LogIs F w lb room L mb ord own D) (hs : Srt L) {c : Ch} (hc : c ∈ L) : getD D c.ac c.ar = some (c, dvOf D c) := by
  unfold dvOf
  rcases getD_get h hs c.ac c.ar with ⟨x, e1, e2, e3⟩ | ⟨e1, e2⟩
  · rw [e1]
    rw [(getL_some hs).2 ⟨hc, rfl, rfl⟩] at e2
    cases e2
    rfl
  · rw [(getL_some hs).2 ⟨hc, rfl, rfl⟩] at e2; cases e2
/-- The row behind a slice's address, in a block of S. -/
def RowIn (S : Nat → Prop) (W : World) (a : Option Addr) (d : List Int) : Prop := d = [] ∨ ∃ b o, a = some ⟨b, o, none⟩ ∧ S b ∧ IntsAt W b o d
theorem RowIn.kept {S : Nat → Prop} {A B : World} {a : Option Addr} {d : List Int} (h : RowIn S A a d) (hb : KeepsS S A B) : RowIn S B a d :=
  h.imp id fun ⟨b, o, e, hs, hr⟩ => ⟨b, o, e, hs, fun i hi => (hb.cell (p := ⟨b, o + i, none⟩) hs).trans (hr i hi)⟩
theorem RowIn.isI {S : Nat → Prop} {W : World} {a : Option Addr} {d : List Int} {c : Nat} (h : RowIn S W a d) (hc : d.length ≤ c) (hl : d.length ≤ 17592186044416) : IsI W (.slice a d.length c) d :=
  ⟨a, c, rfl, hc, hl, h.imp id fun ⟨b, o, e, _, hr⟩ => ⟨b, o, e, hr⟩⟩
def KeepsH (S : Nat → Prop) (W X : World) : Prop := KeepsS S W X ∧ ∀ k, S k → k < W.heap.size
theorem KeepsH.below {S : Nat → Prop} {W X Y : World} (h : KeepsH S W X) (hb : Below X.heap.size X Y) : KeepsH S W Y := ⟨h.1.trans (KeepsS.of_below hb (fun k hk => Nat.lt_of_lt_of_le (h.2 k hk) h.1.1)), h.2⟩
def JH (B : Nat) (J : Nat → World → Prop) (k : Nat) (X : World) : Prop := J k X ∧ AbidesFrom B J
theorem JH.below {B : Nat} {J : Nat → World → Prop} {k : Nat} {X Y : World} (h : JH B J k X) (hb : Below X.heap.size X Y) : JH B J k Y := ⟨h.2 k X Y none h.1 (grownBy.ofBelow hb none) (fun r e => by cases e), h.2⟩

set_option maxRecDepth 100000 in
set_option maxHeartbeats 8000000 in
theorem missing1_in (n : Nat) (hn : 2 ≤ n) (l B1 B2 ck : Nat) (S : Nat → Prop) (F : Nat → Prop) (lb : Nat) (room : Int) (L : List Ch) (mb : Nat) (ord : Value) (own : List Value) (D : List (Ch × Value)) (ak : Option Addr) (kn : List Int) (J Jx : Nat → World → Prop) (W : World)
    (hL : LogIs F W lb room L mb ord own D) (hs : Srt L) (hl : L.length ≤ 4096) (hSF : ∀ k, F k → S k) (hS1 : S B1) (hS2 : S B2) (hSl : ∀ k, S k → k < W.heap.size) (hB1 : W.cell? ⟨B1, 0, none⟩ = some (.pointer (some ⟨lb, 0, none⟩))) (hB2 : W.cell? ⟨B2, 0, none⟩ = some (.slice ak kn.length ck)) (hRk : RowIn S W ak kn) (hck : kn.length ≤ ck) (hkl : kn.length ≤ 17592186044416)
    (hJ : AbidesFrom W.heap.size J)
    (hY : ∀ k (h : k < (lackE D L kn).length) W1, J k W1 → YieldAt Fence.wide (n - 1) Tryz.prog l (encH (lackE D L kn)[k]) W1 fun e W' => (e = .returned (.bool true) ∧ J (k + 1) W' ∧ KeepsS S W1 W') ∨ (e = .returned (.bool false) ∧ Jx (k + 1) W')) (h0 : J 0 W) :
    CallsIn Fence.wide n Tryz.prog 47 #[.func (.yield l) #[] #[], .pointer (some ⟨B1, 0, none⟩), .pointer (some ⟨B2, 0, none⟩)] W fun e W' => (∃ v, e = .returned v) ∧ (J (lackE D L kn).length W' ∨ ∃ k, k ≤ (lackE D L kn).length ∧ Jx k W') := by
  have HL : Hid (LogIs F W lb room L mb ord own D) := hL
  have HSr : Hid (Srt L) := hs
  have HRk : Hid (RowIn S W ak kn) := hRk
  have HSl : Hid (∀ k, S k → k < W.heap.size) := hSl
  have HSF : Hid (∀ k, F k → S k) := hSF
  have HJ : Hid (AbidesFrom W.heap.size J) := hJ
  obtain ⟨ao, co, eo⟩ := hL.hord.form
  have o2 := hL.cell2
  rw [eo, stL_length] at o2
  have HO : Hid (ord = .slice ao (stL L).length co) := eo
  have hcx : ∀ X, KeepsH S W X → X.cell? ⟨B1, 0, none⟩ = some (.pointer (some ⟨lb, 0, none⟩)) := fun X h => (h.1.cell (p := ⟨B1, 0, none⟩) hS1).trans hB1
  clear hL hs hRk hSF hJ eo hSl
  refine callsIn_of_wp Tryz.func47 rfl trivial ?_ rfl
  simp only [Tryz.ntmps47, List.size_toArray, List.length_cons, List.length_nil, Nat.reduceAdd, Nat.reduceSub, Array.replicate_succ, Array.replicate_zero, List.push_toArray, List.append_toArray, List.nil_append, List.cons_append]
  gi_wp2
  gi_loopw [5, 6, 12] (fun _ _ i wr => ∃ k : Nat, k ≤ L.length ∧ i = .int .i64 k ∧ Hid (JH W.heap.size J (lackL (L.take k) kn).length wr) ∧ Hid (KeepsH S W wr))
    (fun _ _ i _ => L.length - (intOf i).toNat)
  case atStart => exact ⟨0, Nat.zero_le _, rfl, ⟨h0, HJ.out⟩, ⟨KeepsS.refl _ _, HSl.out⟩⟩
  case round =>
    obtain ⟨k, hk, rfl, HJr, HKr⟩ := hrel
    by_cases hlt : k < L.length
    · have HLr : Hid (LogIs F wr lb room L mb ord own D) := HL.out.keep (HKr.out.1.mono HSF.out)
      have hmem : L[k] ∈ L := List.getElem_mem hlt
      have hgd := getD_of HLr.out HSr.out hmem
      have hst : (stL L)[k]'(by rw [stL_length]; exact hlt) = (L[k].ac, L[k].ar) := by simp [stL]
      obtain ⟨g5, c5, e5, y1, y2⟩ := OwnS_cells HLr.out.hord (i := k) (by rw [stL_length]; exact hlt)
      rw [hst] at y1 y2
      rw [HO.out] at e5
      cases e5
      have hdx := HLr.out.hdep _ (List.mem_of_find?_eq_some hgd)
      obtain ⟨⟨ac, ar, sq, ds, kd, nc, nr, pc, pr, fc, fr, nm, vl⟩, hc⟩ : ∃ c, c = L[k] := ⟨_, rfl⟩
      rw [← hc] at hgd hdx y1 y2
      have hi2 : IsI wr (dvOf D (⟨ac, ar, sq, ds, kd, nc, nr, pc, pr, fc, fr, nm, vl⟩ : Ch)) ds := hdx.1.isI hdx.2.2
      obtain ⟨a0, c0, e0⟩ := hi2.form
      have HDV : Hid (dvOf D (⟨ac, ar, sq, ds, kd, nc, nr, pc, pr, fc, fr, nm, vl⟩ : Ch) = .slice a0 ds.length c0) := e0
      rw [e0] at hgd hi2
      have HGD : Hid (getD D ac ar = some ((⟨ac, ar, sq, ds, kd, nc, nr, pc, pr, fc, fr, nm, vl⟩ : Ch), .slice a0 ds.length c0)) := hgd
      have HIr : Hid (IsI wr (.slice a0 ds.length c0) ds) := hi2
      have HCk : Hid ((⟨ac, ar, sq, ds, kd, nc, nr, pc, pr, fc, fr, nm, vl⟩ : Ch) = L[k]) := hc
      have kk1 : (k : Int) < (L.length : Int) := by omega
      have kk0 : (0 : Int) ≤ (k : Int) := by omega
      clear hmem hst hdx hgd hi2 e0 hc
      obtain ⟨W4, eW4⟩ : ∃ X, X = wr.alloc (.cells #[.int .i64 ac, .int .i64 ar] 36) := ⟨_, rfl⟩
      have hb4 : Below wr.heap.size wr W4 := by rw [eW4]; exact (Below.refl _ _).alloc (Nat.le_refl _) _
      have HSb : Hid (KeptD wr wr.heap.size [.int .i64 ac, .int .i64 ar] W4) := by rw [eW4]; exact KeptC.start wr [.int .i64 ac, .int .i64 ar] 36
      have HLx : Hid (LogIs F W4 lb room L mb ord own D) := HLr.out.below hb4
      have HKx : Hid (KeepsH S W W4) := HKr.out.below hb4
      have HJx : Hid (JH W.heap.size J (lackL (L.take k) kn).length W4) := HJr.out.below hb4
      have HIx : Hid (IsI W4 (.slice a0 ds.length c0) ds) := HIr.out.below hb4
      clear hb4
      gi_wp2
      rw [← eW4]
      clear eW4
      refine wpIn_wide.2 ?_
      refine wp_region_held_drew (S := fun W' => KeptC wr wr.heap.size [.int .i64 ac, .int .i64 ar] W' ∧ LogIs F W' lb room L mb ord own D ∧ W'.cell? ⟨B1, 0, none⟩ = some (.pointer (some ⟨lb, 0, none⟩))) (by kernel_rfl) ⟨HSb.out.step (Below.refl _ _).drew, HLx.out.below (Below.refl _ _).drew, hcx _ (HKx.out.below (Below.refl _ _).drew)⟩ (fun hHeld => ?_)
      obtain ⟨Um3u0, eW⟩ : ∃ X, X = W4.drew := ⟨_, rfl⟩
      have hb : Below W4.heap.size W4 Um3u0 := by rw [eW]; exact (Below.refl _ _).drew
      replace HSb : Hid (KeptD wr wr.heap.size [.int .i64 ac, .int .i64 ar] Um3u0) := HSb.out.below hb
      replace HLx : Hid (LogIs F Um3u0 lb room L mb ord own D) := HLx.out.below hb
      replace HKx : Hid (KeepsH S W Um3u0) := HKx.out.below hb
      replace HJx : Hid (JH W.heap.size J (lackL (L.take k) kn).length Um3u0) := HJx.out.below hb
      replace HIx : Hid (IsI Um3u0 (.slice a0 ds.length c0) ds) := HIx.out.below hb
      rw [← eW] at hHeld ⊢
      clear eW hb
      refine tkW 0 (some 16) (v := ?_) ?_ hHeld ?_
      rotate_left
      · (intro w hSw; (try dsimp only at hSw); obtain ⟨hsb, hlg, hb1⟩ := hSw; have s_0 := hsb.1 0 _ rfl; have s_1 := hsb.1 1 _ rfl; have lc1 := hlg.cell1; have hlk : (Instr.lookup 73 (.map (some mb)) (.agg #[.int .i64 ac, .int .i64 ar]) false).run Tryz.prog w = .ok (.agg #[.int .i64 ac, .int .i64 ar, .int .i64 sq, .slice a0 ds.length c0, .int .i64 kd, .int .i64 nc, .int .i64 nr, .int .i64 pc, .int .i64 pr, .int .i64 fc, .int .i64 fr, .string nm, .string vl]) w := (by have h0 := look1_st hlg.hmap ac ar; rw [HGD.out] at h0; exact h0); go_simp; try with_reducible rfl)
      refine tkW 1 (some 17) (v := ?_) ?_ hHeld ?_
      rotate_left
      · (intro w hSw; (try dsimp only at hSw); obtain ⟨hsb, hlg, hb1⟩ := hSw; have s_0 := hsb.1 0 _ rfl; have s_1 := hsb.1 1 _ rfl; have lc1 := hlg.cell1; have hlk : (Instr.lookup 73 (.map (some mb)) (.agg #[.int .i64 ac, .int .i64 ar]) false).run Tryz.prog w = .ok (.agg #[.int .i64 ac, .int .i64 ar, .int .i64 sq, .slice a0 ds.length c0, .int .i64 kd, .int .i64 nc, .int .i64 nr, .int .i64 pc, .int .i64 pr, .int .i64 fc, .int .i64 fr, .string nm, .string vl]) w := (by have h0 := look1_st hlg.hmap ac ar; rw [HGD.out] at h0; exact h0); go_simp; try with_reducible rfl)
      refine tkW 2 (some 18) (v := ?_) ?_ hHeld ?_
      rotate_left
      · (intro w _; go_simp; try with_reducible rfl)
      refine tkW 3 (some 19) (v := ?_) ?_ hHeld ?_
      rotate_left
      · (intro w hSw; (try dsimp only at hSw); obtain ⟨hsb, hlg, hb1⟩ := hSw; have s_0 := hsb.1 0 _ rfl; have s_1 := hsb.1 1 _ rfl; have lc1 := hlg.cell1; have hlk : (Instr.lookup 73 (.map (some mb)) (.agg #[.int .i64 ac, .int .i64 ar]) false).run Tryz.prog w = .ok (.agg #[.int .i64 ac, .int .i64 ar, .int .i64 sq, .slice a0 ds.length c0, .int .i64 kd, .int .i64 nc, .int .i64 nr, .int .i64 pc, .int .i64 pr, .int .i64 fc, .int .i64 fr, .string nm, .string vl]) w := (by have h0 := look1_st hlg.hmap ac ar; rw [HGD.out] at h0; exact h0); go_simp; try with_reducible rfl)
      refine tkW 4 (some 20) (v := ?_) ?_ hHeld ?_
      rotate_left
      · (intro w hSw; (try dsimp only at hSw); obtain ⟨hsb, hlg, hb1⟩ := hSw; have s_0 := hsb.1 0 _ rfl; have s_1 := hsb.1 1 _ rfl; have lc1 := hlg.cell1; have hlk : (Instr.lookup 73 (.map (some mb)) (.agg #[.int .i64 ac, .int .i64 ar]) false).run Tryz.prog w = .ok (.agg #[.int .i64 ac, .int .i64 ar, .int .i64 sq, .slice a0 ds.length c0, .int .i64 kd, .int .i64 nc, .int .i64 nr, .int .i64 pc, .int .i64 pr, .int .i64 fc, .int .i64 fr, .string nm, .string vl]) w := (by have h0 := look1_st hlg.hmap ac ar; rw [HGD.out] at h0; exact h0); go_simp; try with_reducible rfl)
      refine tkW 5 (some 21) (v := ?_) ?_ hHeld ?_
      rotate_left
      · (intro w hSw; (try dsimp only at hSw); obtain ⟨hsb, hlg, hb1⟩ := hSw; have s_0 := hsb.1 0 _ rfl; have s_1 := hsb.1 1 _ rfl; have lc1 := hlg.cell1; have hlk : (Instr.lookup 73 (.map (some mb)) (.agg #[.int .i64 ac, .int .i64 ar]) false).run Tryz.prog w = .ok (.agg #[.int .i64 ac, .int .i64 ar, .int .i64 sq, .slice a0 ds.length c0, .int .i64 kd, .int .i64 nc, .int .i64 nr, .int .i64 pc, .int .i64 pr, .int .i64 fc, .int .i64 fr, .string nm, .string vl]) w := (by have h0 := look1_st hlg.hmap ac ar; rw [HGD.out] at h0; exact h0); go_simp; try with_reducible rfl)
      refine wpAnyH_ready (rs := [6]) (by kernel_rfl) (by simp) ?_
      refine AllReadyH.cons (o := ⟨some 6, _, _, _, _, _⟩) rfl (fun K hK => ?_) AllReadyH.nil
      go_simp
      refine hK.out _ _ (⟨hHeld.1.step ((Below.refl _ _).alloc (Nat.le_refl _) _), hHeld.2.1.below ((Below.refl _ _).alloc (Nat.le_refl _) _), (Below.cell ((Below.refl _ _).alloc (Nat.le_refl _) _) (p := ⟨B1, 0, none⟩) (cell_lt hHeld.2.2)).trans hHeld.2.2⟩) (fun hHeld2 => ?_)
      clear hK K hHeld
      have hHeld := hHeld2
      clear hHeld2
      (try simp only [Act.put, List.setIfInBounds_toArray, List.set_cons_zero, List.set_cons_succ])
      refine wpAnyH_ready (rs := [7]) (by kernel_rfl) (by simp) ?_
      refine AllReadyH.cons (o := ⟨none, _, _, _, _, _⟩) rfl (fun K hK => ?_) AllReadyH.nil
      refine step_store_new rfl 38 (.tmp 6) (.tmp 21) rfl _ _ rfl rfl sizeChange rfl (by simp [Value.oneCell']) ?_
      obtain ⟨Um3u2, eW⟩ : ∃ Y, Y = Um3u0.alloc (.cells #[.int .i64 ac, .int .i64 ar, .int .i64 sq, .slice a0 ds.length c0, .int .i64 kd, .int .i64 nc, .int .i64 nr, .int .i64 pc, .int .i64 pr, .int .i64 fc, .int .i64 fr, .string nm, .string vl] 38) := ⟨_, rfl⟩
      have hb : Below Um3u0.heap.size Um3u0 Um3u2 := by rw [eW]; exact (Below.refl _ _).alloc (Nat.le_refl _) _
      have HM0 : Hid (KeptC Um3u0 Um3u0.heap.size [.int .i64 ac, .int .i64 ar, .int .i64 sq, .slice a0 ds.length c0, .int .i64 kd, .int .i64 nc, .int .i64 nr, .int .i64 pc, .int .i64 pr, .int .i64 fc, .int .i64 fr, .string nm, .string vl] Um3u2) := by rw [eW]; exact KeptC.start Um3u0 [.int .i64 ac, .int .i64 ar, .int .i64 sq, .slice a0 ds.length c0, .int .i64 kd, .int .i64 nc, .int .i64 nr, .int .i64 pc, .int .i64 pr, .int .i64 fc, .int .i64 fr, .string nm, .string vl] 38
      have HL2 : Hid (LogIs F Um3u2 lb room L mb ord own D) := HLx.out.below hb
      have HK2 : Hid (KeepsH S W Um3u2) := HKx.out.below hb
      have HJ2 : Hid (JH W.heap.size J (lackL (L.take k) kn).length Um3u2) := HJx.out.below hb
      have hc2 : Um3u2.cell? ⟨B1, 0, none⟩ = some (.pointer (some ⟨lb, 0, none⟩)) := (hb.cell (p := ⟨B1, 0, none⟩) (Nat.lt_of_lt_of_le (HSl.out _ hS1) HKx.out.1.1)).trans (hcx Um3u0 HKx.out)
      have HS2 : Hid (KeptC wr wr.heap.size [.int .i64 ac, .int .i64 ar] Um3u2) := HSb.out.step hb
      rw [← eW]
      refine hK.out _ _ (⟨HS2.out, HL2.out, hc2⟩) (fun hHeld2 => ?_)
      clear hK K hHeld
      have hHeld := hHeld2
      clear hHeld2
      (try simp only [Act.put, List.setIfInBounds_toArray, List.set_cons_zero, List.set_cons_succ])
      clear eW hb hc2
      refine wpAnyH_done (by kernel_rfl) ?_ _
      clear hHeld
      obtain ⟨k_0, k_1, k_2, k_3, k_4, k_5, k_6, k_7, k_8, k_9, k_10, k_11, k_12⟩ := HM0.out.all
      have b2 : Um3u2.cell? ⟨B2, 0, none⟩ = some (.slice ak kn.length ck) := (HK2.out.1.cell (p := ⟨B2, 0, none⟩) hS2).trans hB2
      have HKN : Hid (IsI Um3u2 (.slice ak kn.length ck) kn) := RowIn.isI (HRk.out.kept HK2.out.1) hck hkl
      gi_wp2_with fail
      refine ⟨trivial, fun _ => by omega, ?_⟩
      refine (callsIn_wide.2 (isWithin_any ac ar sq (.slice a0 ds.length c0) kd nc nr pc pr fc fr nm vl ds (.slice ak kn.length ck) kn _ HKN.out)).mono ?_
      rintro e w9 ⟨rfl, hb9⟩
      have HJ9 : Hid (JH W.heap.size J (lackL (L.take k) kn).length w9) := HJ2.out.below hb9
      have HK9 : Hid (KeepsH S W w9) := HK2.out.below hb9
      have HM9 := HM0.out.step hb9
      clear hb9 b2 k_0 k_1 k_2 k_3 k_4 k_5 k_6 k_7 k_8 k_9 k_10 k_11 k_12
      obtain ⟨k_0, k_1, k_2, k_3, k_4, k_5, k_6, k_7, k_8, k_9, k_10, k_11, k_12⟩ := HM9.all
      clear HM9 HM0 HL2 HK2 HJ2 HS2 HLx HKx HJx HIx HSb HKN
      obtain ⟨sb, hsb⟩ : ∃ b, b = withinB (⟨ac, ar, sq, ds, kd, nc, nr, pc, pr, fc, fr, nm, vl⟩ : Ch) kn := ⟨_, rfl⟩
      rw [← hsb]
      have HW : Hid (withinB L[k] kn = sb) := by rw [← HCk.out]; exact hsb.symm
      clear hsb
      cases sb
      · obtain ⟨hj, hje⟩ := lack_at hlt HW.out
        have hje2 : (lackE D L kn)[(lackL (L.take k) kn).length]'(by rw [lackE_length]; exact hj) = ((⟨ac, ar, sq, ds, kd, nc, nr, pc, pr, fc, fr, nm, vl⟩ : Ch), .slice a0 ds.length c0) := by
          have e1 : (lackE D L kn)[(lackL (L.take k) kn).length]'(by rw [lackE_length]; exact hj) = (L[k], dvOf D L[k]) := by
            simp only [lackE, List.getElem_map, hje]
          rw [e1, ← HCk.out, HDV.out]
        obtain ⟨fn, tmps, assign, body, hy, hR⟩ := hY _ (by rw [lackE_length]; exact hj) _ HJ9.out.1
        rw [hje2] at hy
        simp only [encH, chV, chCells] at hy
        have HN : Hid (lackL (L.take (k + 1)) kn = lackL (L.take k) kn ++ [L[k]]) := by show _ = _; rw [lack_next hlt, HW.out]; rfl
        have HNl : Hid ((lackL (L.take (k + 1)) kn).length = (lackL (L.take k) kn).length + 1) := by show _ = _; rw [HN.out]; simp
        have HJl : Hid ((lackL (L.take k) kn).length + 1 ≤ (lackE D L kn).length) := by show _ ≤ _; rw [lackE_length]; exact hj
        clear hje hje2 hj
        gi_wp2
        refine ⟨fun _ => by omega, hR.mono ?_⟩
        rintro e W3 (⟨rfl, hJ3, hk3⟩ | ⟨rfl, hJx3⟩)
        · have HJ3 : Hid (JH W.heap.size J (lackL (L.take (k + 1)) kn).length W3) := ⟨by rw [HNl.out]; exact hJ3, HJ.out⟩
          have HK3 : Hid (KeepsH S W W3) := ⟨HK9.out.1.trans hk3, HSl.out⟩
          clear hJ3 hk3
          gi_wp2
          go_roundw
          case rel => exact ⟨k + 1, by omega, by go_num, HJ3, HK3⟩
          case measure => simp [intOf]; omega
        · have HJ3 : Hid (Jx ((lackL (L.take k) kn).length + 1) W3) := hJx3
          clear hJx3
          gi_wp2
          refine bodyPost_ret (results_none rfl _ _ _) rfl ?_
          exact ⟨⟨_, rfl⟩, .inr ⟨_, HJl.out, HJ3.out⟩⟩
      · have HNl : Hid ((lackL (L.take (k + 1)) kn).length = (lackL (L.take k) kn).length) := by show _ = _; rw [lack_next hlt, HW.out]; simp
        gi_wp2
        refine ⟨fun f h => (by cases h), ?_⟩
        gi_wp2
        go_roundw
        case rel => exact ⟨k + 1, by omega, by go_num, by rw [HNl.out]; exact HJ9, HK9⟩
        case measure => simp [intOf]; omega
    · have HE : Hid (J (lackE D L kn).length wr) := by
        have := HJr.out.1
        obtain rfl : k = L.length := by omega
        rw [List.take_length] at this
        rw [lackE_length]
        exact this
      gi_wp2
      go_end0
      exact ⟨⟨_, rfl⟩, .inl HE.out⟩

/-- The iterator of missing changes, wherever it is gone over. -/
theorem missing_seq (n : Nat) (hn : 2 ≤ n) (B1 B2 ck : Nat) (S : Nat → Prop) (F : Nat → Prop) (lb : Nat) (room : Int) (L : List Ch) (mb : Nat) (ord : Value) (own : List Value) (D : List (Ch × Value)) (ak : Option Addr) (kn : List Int) (w : World)
    (hL : LogIs F w lb room L mb ord own D) (hs : Srt L) (hl : L.length ≤ 4096) (hSF : ∀ k, F k → S k) (hS1 : S B1) (hS2 : S B2) (hSl : ∀ k, S k → k < w.heap.size) (hB1 : w.cell? ⟨B1, 0, none⟩ = some (.pointer (some ⟨lb, 0, none⟩))) (hB2 : w.cell? ⟨B2, 0, none⟩ = some (.slice ak kn.length ck)) (hRk : RowIn S w ak kn) (hck : kn.length ≤ ck) (hkl : kn.length ≤ 17592186044416) :
    SeqOf n Tryz.prog 47 #[.pointer (some ⟨B1, 0, none⟩), .pointer (some ⟨B2, 0, none⟩)] encH (KeepsS S) (lackE D L kn) w := fun l J Jx W hW hJ _ hY h0 =>
  have hk : KeepsS S w W := KeepsS.of_below hW hSl
  missing1_in n hn l B1 B2 ck S F lb room L mb ord own D ak kn J Jx W (hL.keep (hk.mono hSF)) hs hl hSF hS1 hS2 (fun k h => Nat.lt_of_lt_of_le (hSl k h) hW.size) ((hk.cell (p := ⟨B1, 0, none⟩) hS1).trans hB1) ((hk.cell (p := ⟨B2, 0, none⟩) hS2).trans hB2) (hRk.kept hk) hck hkl hJ hY h0

set_option maxHeartbeats 1000000 in
/-- missing: the iterator's value, the log and the clock in boxes. -/
theorem missing_any (lb : Nat) (kv : Value) (w : World) (hf : ∃ a n c, kv = .slice a n c) :
    Calls Tryz.prog 24 #[.pointer (some ⟨lb, 0, none⟩), kv] w fun e w' => e = .returned (.func (.func 47) #[] #[.pointer (some ⟨w.heap.size, 0, none⟩), .pointer (some ⟨w.heap.size + 1, 0, none⟩)]) ∧ w' = (w.alloc (.cells #[.pointer (some ⟨lb, 0, none⟩)] 24)).alloc (.cells #[kv] 23) := by
  obtain ⟨a, n, c, rfl⟩ := hf
  go_enter Tryz.func24, Tryz.ntmps24
  go_wp2
  go_ret
  exact ⟨rfl, rfl⟩

end Go.Proofs.YtngldpabfpcaiaaGreat
