/- Merge, the document's Merge. -/
import Derived.Test.YtoljacnipkibiaaLwL
import Derived.Test.YtoljacnipkibiaaLwG
namespace Go.Proofs.Ytoljacnipkibiaa
open Go.RowKit
set_option linter.unusedVariables false
set_option linter.unusedSimpArgs false

theorem mergeR_srt {R : List Rg} (h : SrtR R) : ∀ Q : List Rg, SrtR (mergeR R Q) := by
  intro Q
  induction Q generalizing R with
  | nil => exact h
  | cons x Q ih => exact ih (putC_srt h x)
theorem mergeR_next (R R2 : List Rg) (i : Nat) (h : i < R2.length) : mergeR R (R2.take (i + 1)) = putC (mergeR R (R2.take i)) R2[i] := by
  unfold mergeR
  rw [List.take_succ_eq_append_getElem h, List.foldl_append]
  rfl

set_option maxRecDepth 100000 in
set_option maxHeartbeats 4000000 in
theorem merge_any (F : Nat → Prop) (rb : Nat) (R : List Rg) (F2 : Nat → Prop) (v2 : Value) (R2 : List Rg) (w : World) (h : RegOk F w rb R) (h2 : RegV F2 w v2 R2) (hok : ∀ r ∈ R2, okR r = true) (hlen : R.length + R2.length < 4000) :
    Calls Try.prog 26 #[.pointer (some ⟨rb, 0, none⟩), v2] w fun e w' => e = .returned (.int .i64 0) ∧ TakeP F w rb (mergeR R R2) w' := by
  obtain ⟨p2, e2⟩ := h2.ptr
  subst e2
  have HR : Hid (RegOk F w rb R) := h
  have H2 : Hid (RegV F2 w (.pointer p2) R2) := h2
  have HOk : Hid (∀ r ∈ R2, okR r = true) := hok
  clear h h2 hok
  go_enter Try.func26, Try.ntmps26
  go_wp2_with fail
  refine (all_v F2 _ R2 _ H2.out).mono ?_
  rintro e w1 ⟨u, rfl, ho, hb1⟩
  obtain ⟨a2, c2, eu⟩ := ho.form
  subst eu
  have HB1 : Hid (Below w.heap.size w w1) := hb1
  have HLs : Hid (LsE rgCells 7 (fun j => ¬ F j) w1 (.slice a2 R2.length c2) R2) := ho.lsE rgCells_len (by omega) (fun k e hF => by have h3 := (ho.lt k e).1; have h4 := HR.out.lt k hF; omega)
  have HT0 : Hid (TakeP F w1 rb (mergeR R (R2.take 0)) w1) := TakeP.of (HR.out.below hb1) (fun _ h => h) (fun _ h => .inl h) (Touch.of_below (Below.refl _ _))
  clear ho hb1 H2 HR
  go_wp2
  go_loopw [12] (fun iv wr => ∃ i : Nat, iv = .int .i64 (i : Int) ∧ i ≤ R2.length ∧ Hid (TakeP F w1 rb (mergeR R (R2.take i)) wr)) (fun iv _ => R2.length - (intOf iv).toNat)
  case atStart => exact ⟨0, rfl, Nat.zero_le _, HT0⟩
  case round =>
    clear HT0
    obtain ⟨i, rfl, hil, HT⟩ := hrel
    by_cases hlt : i < R2.length
    · obtain ⟨F3, t1, t2, t3, t4⟩ := HT.out
      obtain ⟨b, o, cap, ev, _, hbl, hrow⟩ := (HLs.out.touch t4 (fun k hk => hk)).row7 (i := i) hlt
      injection ev with ev1 ev2 ev3
      subst ev1
      subst ev3
      have HNx0 := mergeR_next R R2 i hlt
      have hok := HOk.out R2[i] (List.getElem_mem hlt)
      obtain ⟨x, ex⟩ : ∃ x, x = R2[i] := ⟨_, rfl⟩
      rw [← ex] at hrow HNx0 hok
      have HNx : Hid (mergeR R (R2.take (i + 1)) = insR (mergeR R (R2.take i)) x) := (by show _ = _; rw [HNx0]; unfold putC; rw [if_pos hok])
      have HMl : Hid ((mergeR R (R2.take i)).length < 4096) := (by have h9 := mergeR_length R (R2.take i); rw [List.length_take] at h9; show _ < _; omega)
      obtain ⟨wq, ewq⟩ : ∃ X, X = wr.alloc (.cells (rgCells x).toArray 25) := ⟨_, rfl⟩
      have hbq : Below wr.heap.size wr wq := by rw [ewq]; exact (Below.refl _ _).alloc (Nat.le_refl _) _
      have HXq : Hid (BxC wr.heap.size (rgCells x) 25 wq) := by rw [ewq]; exact BxC.new _ _ _
      have HT3 : Hid (RegOk F3 wq rb (mergeR R (R2.take i)) ∧ (∀ k, F k → F3 k) ∧ (∀ k, F3 k → F k ∨ w1.heap.size ≤ k) ∧ Touch F w1 wq ∧ w1.heap.size ≤ wq.heap.size) := ⟨t1.below hbq, t2, t3, t4.bel hbq, Nat.le_trans t4.size hbq.size⟩
      have k1 : (i : Int) < (R2.length : Int) := by omega
      have k0 : (0 : Int) ≤ (i : Int) := by omega
      have r0 : wr.cell? ⟨b, o + i * 7, none⟩ = some (.int .i64 x.nd.1) := hrow 0 _ rfl
      have r1 : wr.cell? ⟨b, o + i * 7 + 1, none⟩ = some (.int .i64 x.nd.2) := hrow 1 _ rfl
      have r2 : wr.cell? ⟨b, o + i * 7 + 2, none⟩ = some (.string x.nm) := hrow 2 _ rfl
      have r3 : wr.cell? ⟨b, o + i * 7 + 3, none⟩ = some (.int .i64 x.at_.1) := hrow 3 _ rfl
      have r4 : wr.cell? ⟨b, o + i * 7 + 4, none⟩ = some (.int .i64 x.at_.2) := hrow 4 _ rfl
      have r5 : wr.cell? ⟨b, o + i * 7 + 5, none⟩ = some (.string x.vl) := hrow 5 _ rfl
      have r6 : wr.cell? ⟨b, o + i * 7 + 6, none⟩ = some (.bool x.gn) := hrow 6 _ rfl
      have y0 : wq.cell? ⟨wr.heap.size, 0, none⟩ = some (.int .i64 x.nd.1) := HXq.out.cell 0 _ rfl
      have y1 : wq.cell? ⟨wr.heap.size, 1, none⟩ = some (.int .i64 x.nd.2) := HXq.out.cell 1 _ rfl
      have y2 : wq.cell? ⟨wr.heap.size, 2, none⟩ = some (.string x.nm) := HXq.out.cell 2 _ rfl
      have y3 : wq.cell? ⟨wr.heap.size, 3, none⟩ = some (.int .i64 x.at_.1) := HXq.out.cell 3 _ rfl
      have y4 : wq.cell? ⟨wr.heap.size, 4, none⟩ = some (.int .i64 x.at_.2) := HXq.out.cell 4 _ rfl
      have y5 : wq.cell? ⟨wr.heap.size, 5, none⟩ = some (.string x.vl) := HXq.out.cell 5 _ rfl
      have y6 : wq.cell? ⟨wr.heap.size, 6, none⟩ = some (.bool x.gn) := HXq.out.cell 6 _ rfl
      have ewq2 := ewq
      simp only [rgCells] at ewq2
      rw [ewq2] at y0 y1 y2 y3 y4 y5 y6
      clear t1 t2 t3 t4 hrow hbl ex ev2 HNx0 hok hbq HT ewq
      go_wp2_with fail
      rw [← ewq2]
      clear ewq2 y0 y1 y2 y3 y4 y5 y6 r0 r1 r2 r3 r4 r5 r6
      refine (take_any F3 rb (mergeR R (R2.take i)) x _ HT3.out.1 HMl.out).mono ?_
      rintro e w3 ⟨⟨v, rfl⟩, F4, t1, t2, t3, t4⟩
      have HT4 : Hid (TakeP F w1 rb (insR (mergeR R (R2.take i)) x) w3) := TakeP.of t1 (fun k hk => t2 k (HT3.out.2.1 k hk)) (fun k hk => (t3 k hk).elim (HT3.out.2.2.1 k) (fun h9 => .inr (Nat.le_trans HT3.out.2.2.2.2 h9))) (HT3.out.2.2.2.1.trans t4 HT3.out.2.2.1)
      clear t1 t2 t3 t4 HT3 HXq
      go_wp2
      go_roundw
      case rel => exact ⟨i + 1, by go_num, by omega, by (rw [HNx.out]; exact HT4)⟩
      case measure => simp [intOf]; omega
    · have HE : Hid (TakeP F w rb (mergeR R R2) wr) := (by
        have h9 := HT.out
        rw [List.take_of_length_le (by omega)] at h9
        obtain ⟨F3, t1, t2, t3, t4⟩ := h9
        exact TakeP.of t1 t2 (fun k hk => (t3 k hk).imp id (fun h => Nat.le_trans HB1.out.size h)) ((Touch.of_below HB1.out).trans t4 (fun j hj => .inl hj)))
      clear HT
      go_wp2
      go_ret
      exact ⟨rfl, HE.out⟩

set_option maxRecDepth 100000 in
set_option maxHeartbeats 4000000 in
theorem refMerge_any (G : Nat → Prop) (va vb : Value) (R R2 : List Rg) (w : World) (ha : LsE rgCells 7 G w va R) (hb : LsE rgCells 7 G w vb R2) (hs : SrtR R) (hlen : R.length + R2.length < 4000) (hsm : ∀ r ∈ R2, r.nm.size ≤ 281474976710656) :
    Calls Try.prog 27 #[va, vb] w fun e w' => ∃ v', e = .returned v' ∧ LsE rgCells 7 (fun j => G j ∨ w.heap.size ≤ j) w' v' (mergeR R R2) ∧ Below w.heap.size w w' := by
  obtain ⟨a2, c2, eb⟩ := hb.form
  subst eb
  obtain ⟨a1, c1, ea⟩ := ha.form
  subst ea
  have HLs : Hid (LsE rgCells 7 G w (.slice a2 R2.length c2) R2) := hb
  have HSr : Hid (SrtR R) := hs
  have HSm : Hid (∀ r ∈ R2, r.nm.size ≤ 281474976710656) := hsm
  have HA0 : Hid (LsE rgCells 7 (fun j => G j ∨ w.heap.size ≤ j) w (.slice a1 R.length c1) (mergeR R (R2.take 0)) ∧ Below w.heap.size w w) := ⟨ha.mono fun _ h => .inl h, Below.refl _ _⟩
  clear ha hb hs hsm
  go_enter Try.func27, Try.ntmps27
  go_wp2
  go_loopw [0, 5] (fun av iv wr => ∃ i : Nat, iv = .int .i64 (i : Int) ∧ i ≤ R2.length ∧ (∃ a c, av = .slice a (mergeR R (R2.take i)).length c) ∧ Hid (LsE rgCells 7 (fun j => G j ∨ w.heap.size ≤ j) wr av (mergeR R (R2.take i)) ∧ Below w.heap.size w wr)) (fun _ iv _ => R2.length - (intOf iv).toNat)
  case atStart => exact ⟨0, rfl, Nat.zero_le _, ⟨_, _, rfl⟩, HA0⟩
  case round =>
    clear HA0
    obtain ⟨i, rfl, hil, ⟨a9, c9, rfl⟩, HA⟩ := hrel
    by_cases hlt : i < R2.length
    · obtain ⟨b, o, cap, ev, _, hbl, hrow⟩ := (HLs.out.below HA.out.2).row7 (i := i) hlt
      injection ev with ev1 ev2 ev3
      subst ev1
      subst ev3
      have HNx0 := mergeR_next R R2 i hlt
      have hsm := HSm.out R2[i] (List.getElem_mem hlt)
      obtain ⟨x, ex⟩ : ∃ x, x = R2[i] := ⟨_, rfl⟩
      rw [← ex] at hrow HNx0 hsm
      have HNx : Hid (mergeR R (R2.take (i + 1)) = putC (mergeR R (R2.take i)) x) := HNx0
      have HMl : Hid ((mergeR R (R2.take i)).length < 4096) := (by have h9 := mergeR_length R (R2.take i); rw [List.length_take] at h9; show _ < _; omega)
      have HSx : Hid (x.nm.size ≤ 281474976710656) := hsm
      have k1 : (i : Int) < (R2.length : Int) := by omega
      have k0 : (0 : Int) ≤ (i : Int) := by omega
      have r0 : wr.cell? ⟨b, o + i * 7, none⟩ = some (.int .i64 x.nd.1) := hrow 0 _ rfl
      have r1 : wr.cell? ⟨b, o + i * 7 + 1, none⟩ = some (.int .i64 x.nd.2) := hrow 1 _ rfl
      have r2 : wr.cell? ⟨b, o + i * 7 + 2, none⟩ = some (.string x.nm) := hrow 2 _ rfl
      have r3 : wr.cell? ⟨b, o + i * 7 + 3, none⟩ = some (.int .i64 x.at_.1) := hrow 3 _ rfl
      have r4 : wr.cell? ⟨b, o + i * 7 + 4, none⟩ = some (.int .i64 x.at_.2) := hrow 4 _ rfl
      have r5 : wr.cell? ⟨b, o + i * 7 + 5, none⟩ = some (.string x.vl) := hrow 5 _ rfl
      have r6 : wr.cell? ⟨b, o + i * 7 + 6, none⟩ = some (.bool x.gn) := hrow 6 _ rfl
      clear hrow hbl ex ev2 HNx0 hsm
      go_wp2_with fail
      clear r0 r1 r2 r3 r4 r5 r6
      refine (refPut_any (fun j => (G j ∨ w.heap.size ≤ j)) _ (mergeR R (R2.take i)) x _ HA.out.1 (mergeR_srt HSr.out _) HMl.out HSx.out).mono ?_
      rintro e w8 ⟨v8, rfl, hd, hb⟩
      have HA8 : Hid (LsE rgCells 7 (fun j => G j ∨ w.heap.size ≤ j) w8 v8 (putC (mergeR R (R2.take i)) x) ∧ Below w.heap.size w w8) := ⟨hd.mono fun k hk => hk.elim id (fun h => .inr (Nat.le_trans HA.out.2.size h)), HA.out.2.trans (hb.mono HA.out.2.size)⟩
      obtain ⟨a8, c8, e8⟩ := hd.form
      subst e8
      clear hd hb HA
      go_wp2
      go_roundw
      case rel => exact ⟨i + 1, by go_num, by omega, by (rw [HNx.out]; exact ⟨⟨_, _, rfl⟩, HA8⟩)⟩
      case measure => simp [intOf]; omega
    · have HE : Hid (LsE rgCells 7 (fun j => G j ∨ w.heap.size ≤ j) wr (.slice a9 (mergeR R (R2.take i)).length c9) (mergeR R R2) ∧ Below w.heap.size w wr) := (by
        have h9 := HA.out
        rw [List.take_of_length_le (by omega)] at h9 ⊢
        exact h9)
      clear HA
      go_wp2
      go_ret
      exact ⟨_, rfl, HE.out.1, HE.out.2⟩

end Go.Proofs.Ytoljacnipkibiaa
