/- VtreeCopies: what a copy is. -/
import Derived.Test.YtnpdinnbfpikjaaVtL
import Derived.Test.YtnpdinnbfpikjaaVtU
import Derived.Test.YtnpdinnbfpikjaaVtJ
import Derived.Test.YtnpdinnbfpikjaaVtY
import Derived.Test.YtnpdinnbfpikjaaVtZ
import Derived.Deep.Cut
namespace Go.Proofs.Ytnpdinnbfpikjaa
open Go.RowKit
set_option linter.unusedVariables false
set_option linter.unusedSimpArgs false

/-- What stands in VtreeCopies. -/
structure VoS (w : World) (F2 : Nat → Prop) (t : VT) (aa : Option Addr) (ca : Nat) (ak : Option Addr) (ck : Nat) (ob : Nat) (ya : Option Addr) (cy : Nat) (yk : Option Addr) (dy cb : Nat) (za : Option Addr) (cz : Nat) (zk : Option Addr) (dz : Nat) (W : World) : Prop where
  b1 : W.heap[w.heap.size]? = some (.cells #[.int .i64 t.k.1, .int .i64 t.k.2, .string t.tg, .string t.tx, .slice aa t.at_.length ca, .slice ak t.ks.length ck] 27)
  b2 : W.heap[ob]? = some (.cells #[.int .i64 t.k.1, .int .i64 t.k.2, .string t.tg, .string t.tx, .slice ya t.at_.length cy, .slice yk t.ks.length dy] 27)
  b3 : W.heap[cb]? = some (.cells #[.int .i64 t.k.1, .int .i64 t.k.2, .string t.tg, .string t.tx, .slice za t.at_.length cz, .slice zk t.ks.length dz] 27)
  ft : FdIs (fun k => k < w.heap.size) W (.slice aa t.at_.length ca) (.slice ak t.ks.length ck) t.at_ t.ks
  fz : FdIs F2 W (.slice za t.at_.length cz) (.slice zk t.ks.length dz) t.at_ t.ks
  bel : Below w.heap.size w W
theorem VoS.below {w : World} {F2 : Nat → Prop} {t : VT} {aa : Option Addr} {ca : Nat} {ak : Option Addr} {ck ob : Nat} {ya : Option Addr} {cy : Nat} {yk : Option Addr} {dy cb : Nat} {za : Option Addr} {cz : Nat} {zk : Option Addr} {dz : Nat} {W W' : World} (h : VoS w F2 t aa ca ak ck ob ya cy yk dy cb za cz zk dz W) (hb : Below W.heap.size W W') : VoS w F2 t aa ca ak ck ob ya cy yk dy cb za cz zk dz W' := ⟨(hb.block _ (row_lt h.b1)).trans h.b1, (hb.block _ (row_lt h.b2)).trans h.b2, (hb.block _ (row_lt h.b3)).trans h.b3, h.ft.below hb, h.fz.below hb, h.bel.trans (hb.mono h.bel.size)⟩
/-- And behind the spoiling. -/
structure VoT (w : World) (F2 : Nat → Prop) (t : VT) (aa : Option Addr) (ca : Nat) (ak : Option Addr) (ck : Nat) (cb : Nat) (za : Option Addr) (cz : Nat) (zk : Option Addr) (dz : Nat) (W : World) : Prop where
  b1 : W.heap[w.heap.size]? = some (.cells #[.int .i64 t.k.1, .int .i64 t.k.2, .string t.tg, .string t.tx, .slice aa t.at_.length ca, .slice ak t.ks.length ck] 27)
  b3 : W.heap[cb]? = some (.cells #[.int .i64 t.k.1, .int .i64 t.k.2, .string t.tg, .string t.tx, .slice za t.at_.length cz, .slice zk t.ks.length dz] 27)
  ft : FdIs (fun k => k < w.heap.size) W (.slice aa t.at_.length ca) (.slice ak t.ks.length ck) t.at_ t.ks
  fz : FdIs F2 W (.slice za t.at_.length cz) (.slice zk t.ks.length dz) t.at_ t.ks
  bel : Below w.heap.size w W

set_option maxRecDepth 100000 in
set_option maxHeartbeats 4000000 in
theorem vtreeCopies_walk0 (G : Nat → Prop) (v : Value) (t : VT) (w : World) (h : VIs G w v t) :
    Calls Try.prog 6 #[v] w fun e w' => e = .returned (.bool true) ∧ Below w.heap.size w w' := by
  obtain ⟨aa, ca, ak, ck, e1, fd0⟩ := h.form
  subst e1
  have fd : FdIs (fun k => k < w.heap.size) w (.slice aa t.at_.length ca) (.slice ak t.ks.length ck) t.at_ t.ks := fd0.turn (Nat.le_refl _) fun k _ q => ⟨q, rfl⟩
  clear fd0 h
  obtain ⟨W0, eW⟩ : ∃ X, X = (w.alloc (.cells #[.int .i64 t.k.1, .int .i64 t.k.2, .string t.tg, .string t.tx, .slice aa t.at_.length ca, .slice ak t.ks.length ck] 27)) := ⟨_, rfl⟩
  have hb0 : Below w.heap.size w W0 := (by rw [eW]; exact (Below.refl _ _).alloc (Nat.le_refl _) _)
  have hs0 : W0.heap.size = w.heap.size + 1 := (by rw [eW]; simp)
  have HTb : Hid (W0.heap[w.heap.size]? = some (.cells #[.int .i64 t.k.1, .int .i64 t.k.2, .string t.tg, .string t.tx, .slice aa t.at_.length ca, .slice ak t.ks.length ck] 27)) := (by rw [eW]; exact heap_alloc_new _ _)
  have HFd := hide9 (fd.below hb0)
  have HB := hide9 hb0
  have Hs0 := hide9 hs0
  have HE := hide9 eW
  clear fd hb0 eW hs0
  go_enter Try.func6, Try.ntmps6
  go_wp2_with fail
  rw [← HE.out]
  clear HE
  refine (refCopy_sep _ t _ _ (VIs.of HFd.out)).mono ?_
  rintro e W1 ⟨v7, F1, rfl, hv7, hF1, hb, av7, kv7, e8, hs7⟩
  obtain ⟨ya, cy, yk, dy, e7, fy⟩ := hv7.form
  subst e7
  have e9 : (.slice ya t.at_.length cy = av7) ∧ (.slice yk t.ks.length dy = kv7) := (by simpa using e8)
  obtain ⟨e9, e10⟩ := e9
  subst e9 e10
  clear hv7 e8
  obtain ⟨W3, eW3⟩ : ∃ X, X = ((W1.alloc (.cells #[.int .i64 0, .int .i64 0, .string ⟨#[]⟩, .string ⟨#[]⟩, .slice none 0 0, .slice none 0 0] 27)).setRow W1.heap.size #[.int .i64 t.k.1, .int .i64 t.k.2, .string t.tg, .string t.tx, .slice ya t.at_.length cy, .slice yk t.ks.length dy]) := ⟨_, rfl⟩
  have hz : (W1.alloc (.cells #[.int .i64 0, .int .i64 0, .string ⟨#[]⟩, .string ⟨#[]⟩, .slice none 0 0, .slice none 0 0] 27)).heap[W1.heap.size]? = some (.cells #[.int .i64 0, .int .i64 0, .string ⟨#[]⟩, .string ⟨#[]⟩, .slice none 0 0, .slice none 0 0] 27) := heap_alloc_new _ _
  have Hz := hide9 hz
  have hb3 : Below W1.heap.size W1 W3 := (by rw [eW3]; exact ((Below.refl _ _).alloc (Nat.le_refl _) _).grown (grown_setRow _ _ _) (by simp) (fun k e => by cases e; exact Nat.le_refl _))
  have hb4 : Below W0.heap.size W0 W3 := hb.trans (hb3.mono hb.size)
  obtain ⟨ob, eob⟩ : ∃ n, n = W1.heap.size := ⟨_, rfl⟩
  have HO : Hid (W3.heap[ob]? = some (.cells #[.int .i64 t.k.1, .int .i64 t.k.2, .string t.tg, .string t.tx, .slice ya t.at_.length cy, .slice yk t.ks.length dy] 27)) := (by rw [eW3, eob]; exact setRow_same hz)
  have HT3 := hide9 ((hb4.block _ (row_lt HTb.out)).trans HTb.out)
  have HFt := hide9 (HFd.out.below hb4)
  have HFy := hide9 (fy.below hb3)
  have Hsep : Hid (SepF t.sz W3 F1 (.slice ya t.at_.length cy) (.slice yk t.ks.length dy) t) := hs7.turn _ fun k q => hb3.block k (hF1 k q).2
  have HF1 : Hid (∀ k, F1 k → W0.heap.size ≤ k ∧ k < ob) := (fun k q => by rw [eob]; exact hF1 k q)
  have HB3 : Hid (Below w.heap.size w W3) := HB.out.trans (hb4.mono HB.out.size)
  have Hob : Hid (W0.heap.size ≤ ob) := (by rw [eob]; exact hb.size)
  have HE3 := hide9 (And.intro eW3 eob)
  clear hz hb hb3 hb4 fy hs7 hF1 eW3 eob HTb HFd HB
  go_upto_region 2 with (refine wpList_store_row rfl 27 (.tmp 3) (.tmp 6) rfl W1.heap.size 27 #[.int .i64 0, .int .i64 0, .string ⟨#[]⟩, .string ⟨#[]⟩, .slice none 0 0, .slice none 0 0] #[.int .i64 t.k.1, .int .i64 t.k.2, .string t.tg, .string t.tx, .slice ya t.at_.length cy, .slice yk t.ks.length dy] rfl rfl Hz.out sizeVN rfl (by simp [Value.oneCell']) ?_)
  rw [← HE3.out.1, ← HE3.out.2]
  clear HE3 Hz
  obtain ⟨y0, y1, y2, y3, y4, y5⟩ := row6 HO.out
  go_wp2_with fail
  clear y0 y1 y2 y3 y4 y5
  refine (copy_any _ t _ _ (VIs.of HFy.out)).mono ?_
  clear HFy
  rintro e W4 ⟨v8, F2, rfl, hv8, hF2, hb⟩
  obtain ⟨za, cz, zk, dz, e7, fz⟩ := hv8.form
  subst e7
  clear hv8
  obtain ⟨W6, eW6⟩ : ∃ X, X = ((W4.alloc (.cells #[.int .i64 0, .int .i64 0, .string ⟨#[]⟩, .string ⟨#[]⟩, .slice none 0 0, .slice none 0 0] 27)).setRow W4.heap.size #[.int .i64 t.k.1, .int .i64 t.k.2, .string t.tg, .string t.tx, .slice za t.at_.length cz, .slice zk t.ks.length dz]) := ⟨_, rfl⟩
  have hz : (W4.alloc (.cells #[.int .i64 0, .int .i64 0, .string ⟨#[]⟩, .string ⟨#[]⟩, .slice none 0 0, .slice none 0 0] 27)).heap[W4.heap.size]? = some (.cells #[.int .i64 0, .int .i64 0, .string ⟨#[]⟩, .string ⟨#[]⟩, .slice none 0 0, .slice none 0 0] 27) := heap_alloc_new _ _
  have Hz := hide9 hz
  have hb6 : Below W4.heap.size W4 W6 := (by rw [eW6]; exact ((Below.refl _ _).alloc (Nat.le_refl _) _).grown (grown_setRow _ _ _) (by simp) (fun k e => by cases e; exact Nat.le_refl _))
  have hb7 : Below W3.heap.size W3 W6 := hb.trans (hb6.mono hb.size)
  obtain ⟨cb, ecb⟩ : ∃ n, n = W4.heap.size := ⟨_, rfl⟩
  have HC : Hid (W6.heap[cb]? = some (.cells #[.int .i64 t.k.1, .int .i64 t.k.2, .string t.tg, .string t.tx, .slice za t.at_.length cz, .slice zk t.ks.length dz] 27)) := (by rw [eW6, ecb]; exact setRow_same hz)
  have hol := row_lt HO.out
  have Hcb : Hid (ob < cb ∧ ∀ k, F2 k → ob < k) := ⟨by have := hb.size; omega, fun k q => by have := (hF2 k q).1; omega⟩
  have HG : Hid (VoS w F2 t aa ca ak ck ob ya cy yk dy cb za cz zk dz W6) := ⟨(hb7.block _ (row_lt HT3.out)).trans HT3.out, (hb7.block _ (row_lt HO.out)).trans HO.out, HC.out, HFt.out.below hb7, fz.below hb6, HB3.out.trans (hb7.mono HB3.out.size)⟩
  replace Hsep := hide9 (Hsep.out.turn _ fun k q => hb7.block k (by have := (HF1.out k q).2; omega))
  have HE6 := hide9 (And.intro eW6 ecb)
  clear hz hb hb6 hb7 fz hF2 eW6 ecb HC HT3 HO HFt HB3 hol
  go_upto_region 3 with (refine wpList_store_row rfl 27 (.tmp 4) (.tmp 8) rfl W4.heap.size 27 #[.int .i64 0, .int .i64 0, .string ⟨#[]⟩, .string ⟨#[]⟩, .slice none 0 0, .slice none 0 0] #[.int .i64 t.k.1, .int .i64 t.k.2, .string t.tg, .string t.tx, .slice za t.at_.length cz, .slice zk t.ks.length dz] rfl rfl Hz.out sizeVN rfl (by simp [Value.oneCell']) ?_)
  rw [← HE6.out.1, ← HE6.out.2]
  clear HE6 Hz
  obtain ⟨z0, z1, z2, z3, z4, z5⟩ := row6 HG.out.b3
  obtain ⟨t0, t1, t2, t3, t4, t5⟩ := row6 HG.out.b1
  go_wp2_with fail
  clear z0 z1 z2 z3 z4 z5 t0 t1 t2 t3 t4 t5
  refine (refSame_any F2 _ t t _ _ _ (VIs.of HG.out.fz) (VIs.of HG.out.ft)).mono ?_
  rintro e W7 ⟨rfl, hb⟩
  rw [eqV_self]
  replace Hsep := hide9 (Hsep.out.turn _ fun k q => hb.block k (by have := (HF1.out k q).2; have := row_lt HG.out.b2; omega))
  have HG7 := hide9 (HG.out.below hb)
  clear HG hb
  obtain ⟨y0, y1, y2, y3, y4, y5⟩ := row6 HG7.out.b2
  go_wp2_with fail
  clear y0 y1 y2 y3 y4 y5
  refine (spoil_n t.sz F1 t _ _ _ Hsep.out (fun k q => by have := (HF1.out k q).2; have := row_lt HG7.out.b2; omega)).mono ?_
  clear Hsep
  rintro e W8 ⟨⟨v, rfl⟩, htc⟩
  have hs0 := Hs0.out
  have hl3 := row_lt HG7.out.b3
  have hl1 := row_lt HG7.out.b1
  have HG8 : Hid (VoT w F2 t aa ca ak ck cb za cz zk dz W8) := ⟨(htc.block _ hl1 (fun q => by have := (HF1.out _ q).1; omega)).trans HG7.out.b1, (htc.block _ hl3 (fun q => by have := (HF1.out _ q).2; have := Hcb.out.1; omega)).trans HG7.out.b3, HG7.out.ft.turn htc.size (fun k q z => ⟨q, htc.block k z (fun y => by have := (HF1.out k y).1; omega)⟩), HG7.out.fz.turn htc.size (fun k q z => ⟨q, htc.block k z (fun y => by have := (HF1.out k y).2; have := Hcb.out.2 k q; omega)⟩), HG7.out.bel.trans (htc.below (fun k q => by have := (HF1.out k q).1; omega) HG7.out.bel.size)⟩
  clear HG7 htc hs0 hl3 hl1
  obtain ⟨z0, z1, z2, z3, z4, z5⟩ := row6 HG8.out.b3
  obtain ⟨t0, t1, t2, t3, t4, t5⟩ := row6 HG8.out.b1
  go_wp2_with fail
  clear z0 z1 z2 z3 z4 z5 t0 t1 t2 t3 t4 t5
  refine (refSame_any F2 _ t t _ _ _ (VIs.of HG8.out.fz) (VIs.of HG8.out.ft)).mono ?_
  rintro e W9 ⟨rfl, hb⟩
  rw [eqV_self]
  have HB9 : Hid (Below w.heap.size w W9) := HG8.out.bel.trans (hb.mono HG8.out.bel.size)
  clear HG8 hb
  go_wp2_with fail
  refine (awake_any _).mono ?_
  rintro e WX ⟨rfl, hb⟩
  have HBX : Hid (Below w.heap.size w WX) := HB9.out.trans (hb.mono HB9.out.size)
  clear hb HB9
  go_wp2
  go_ret
  exact ⟨rfl, HBX.out⟩

theorem vtreeCopies_walk (v : Value) (t : VT) (w : World) (h : VIs (fun _ => True) w v t) :
    Calls Try.prog 6 #[v] w fun e w' => e = .returned (.bool true) ∧ Below w.heap.size w w' := vtreeCopies_walk0 _ v t w h

end Go.Proofs.Ytnpdinnbfpikjaa
