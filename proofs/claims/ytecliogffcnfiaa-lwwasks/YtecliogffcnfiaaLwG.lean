/- Registers in which some things were put, and the document's. -/
import Derived.Test.YtecliogffcnfiaaLwF
import Derived.Test.YtecliogffcnfiaaLwZ
namespace Go.Proofs.Ytecliogffcnfiaa
open Go.RowKit
set_option linter.unusedVariables false
set_option linter.unusedSimpArgs false

section
variable {α : Type} {enc : α → List Value} {n : Nat} {G : Nat → Prop} {w : World} {v : Value} {L : List α}
theorem LsE.lo (h : LsE enc n G w v L) : LsE enc n (fun j => G j ∧ j < w.heap.size) w v L := by
  obtain ⟨a, cap, e, hc, hl, h⟩ := h
  exact ⟨a, cap, e, hc, hl, h.imp id fun ⟨b, o, ea, hg, hlt, hr⟩ => ⟨b, o, ea, ⟨hg, hlt⟩, hlt, hr⟩⟩
end
/-- Registers and the document's side by side. -/
structure LdS (w : World) (rb : Nat) (F : Nat → Prop) (dv : Value) (R1 R2 : List Rg) (W : World) : Prop where
  row : RegOk F W rb R1
  hi : ∀ j, F j → w.heap.size ≤ j
  doc : LsE rgCells 7 (fun j => ¬ F j) W dv R2
  bel : Below w.heap.size w W
section
variable {w W W' : World} {rb : Nat} {F : Nat → Prop} {dv dv' : Value} {R R1 R2 R3 : List Rg}
theorem LdS.below (h : LdS w rb F dv R1 R2 W) (hb : Below W.heap.size W W') : LdS w rb F dv R1 R2 W' := ⟨h.row.below hb, h.hi, h.doc.below hb, h.bel.trans (hb.mono h.bel.size)⟩
theorem LdS.doc2 (h : LdS w rb F dv R1 R2 W) (hd : LsE rgCells 7 (fun j => (¬ F j ∧ j < W.heap.size) ∨ W.heap.size ≤ j) W' dv' R3) (hb : Below W.heap.size W W') : LdS w rb F dv' R1 R3 W' := ⟨h.row.below hb, h.hi, hd.mono fun k hk => hk.elim (fun h => h.1) (fun h2 hF => by have := h.row.lt k hF; omega), h.bel.trans (hb.mono h.bel.size)⟩
theorem LdS.did (h : LdS w rb F dv R1 R2 W) (hd : TakeP F W rb R W') : ∃ F', LdS w rb F' dv R R2 W' ∧ Touch F W W' := by
  obtain ⟨F', ht, hsub, hnew, hto⟩ := hd
  refine ⟨F', ⟨ht, fun j hj => ?_, ?_, h.bel.trans (hto.below h.hi h.bel.size)⟩, hto⟩
  · rcases hnew j hj with h1 | h1
    · exact h.hi j h1
    · exact Nat.le_trans h.bel.size h1
  · exact (h.doc.lo.touch hto (fun k hk => hk.1)).mono fun k hk hF => (hnew k hF).elim hk.1 (fun h2 => by omega)
theorem LdS.rv (h : LdS w rb F dv R1 R2 W) : RegV F W (.pointer (some ⟨rb, 0, none⟩)) R1 := h.row.rv
end
/-- What laid answers. -/
def LaidP (l : List Rg) (w : World) (e : Ending) (w' : World) : Prop := ∃ rb F a c, e = .returned (.tuple #[.pointer (some ⟨rb, 0, none⟩), .slice a (laidL l).length c]) ∧ LdS w rb F (.slice a (laidL l).length c) (laidL l) (laidL l) w'

set_option maxRecDepth 100000 in
set_option maxHeartbeats 8000000 in
theorem laid_any (v : Value) (l : List Rg) (w : World) (h : IsRg w v l) :
    Calls Try.prog 4 #[v] w fun e w' => LaidP l w e w' := by
  obtain ⟨a1, c1, e1⟩ := h.1.form
  subst e1
  have hlen := h.1.len
  have HLs : Hid (IsRg w (.slice a1 l.length c1) l) := h
  clear h
  go_enter Try.func4, Try.ntmps4
  go_wp2_with fail
  refine (new_any _).mono ?_
  rintro e w1 ⟨rb, F0, rfl, hT, hFh, hb1⟩
  obtain ⟨w2, ew2⟩ : ∃ X, X = w1.alloc (.cells #[] 26) := ⟨_, rfl⟩
  have hb2 : Below w1.heap.size w1 w2 := by rw [ew2]; exact (Below.refl _ _).alloc (Nat.le_refl _) _
  have HM0 : Hid (LdS w rb F0 (.slice (some ⟨w1.heap.size, 0, none⟩) 0 0) [] [] w2) := ⟨hT.below hb2, hFh, LsE.nil _ _ _, hb1.trans (hb2.mono hb1.size)⟩
  clear hT hFh hb1 hb2
  go_wp2_with fail
  rw [← ew2]
  clear ew2
  go_loopw [5, 6] (fun dv iv wr => ∃ (i : Nat) (F : Nat → Prop), iv = .int .i64 (i : Int) ∧ i ≤ l.length ∧ i ≤ 200 ∧ Hid (LdS w rb F dv (laidT (l.take i)) (laidT (l.take i)) wr)) (fun _ iv _ => l.length - (intOf iv).toNat)
  case atStart => exact ⟨0, F0, rfl, Nat.zero_le _, Nat.zero_le _, HM0⟩
  case round =>
    clear HM0
    obtain ⟨i, F, rfl, hil0, hi2, HM⟩ := hrel
    obtain ⟨a9, c9, e9⟩ := HM.out.doc.form
    subst e9
    have HLn : Hid ((laidT (l.take i)).length ≤ 200) := (by have h1 := laidT_len (l.take i); rw [List.length_take] at h1; show _ ≤ _; omega)
    by_cases hlt : i < l.length
    · have k1 : (i : Int) < (l.length : Int) := by omega
      by_cases hlt2 : i < 200
      · have k2 : (i : Int) < 200 := by omega
        have k0 : (0 : Int) ≤ (i : Int) := by omega
        obtain ⟨b, o, cap, ev, _, hbl, hrow⟩ := HLs.out.1.row7 (i := i) hlt
        injection ev with ev1 ev2 ev3
        subst ev1
        subst ev3
        have HSm0 := HLs.out.2 l[i] (List.getElem_mem hlt)
        obtain ⟨x, ex⟩ : ∃ x, x = l[i] := ⟨_, rfl⟩
        rw [← ex] at hrow HSm0
        have HSm : Hid (x.nm.size ≤ 281474976710656) := Nat.le_trans HSm0.1 (by decide)
        have HGl : Hid (b < w.heap.size) := hbl
        have HNx : Hid (laidT (l.take (i + 1)) = putC (laidT (l.take i)) x) := by (show _ = _; rw [laidT_next l i hlt, ← ex])
        have HX0 : Hid (w.cell? ⟨b, o + i * 7, none⟩ = some (.int .i64 x.nd.1)) := hrow 0 _ rfl
        have HX1 : Hid (w.cell? ⟨b, o + i * 7 + 1, none⟩ = some (.int .i64 x.nd.2)) := hrow 1 _ rfl
        have HX2 : Hid (w.cell? ⟨b, o + i * 7 + 2, none⟩ = some (.string x.nm)) := hrow 2 _ rfl
        have HX3 : Hid (w.cell? ⟨b, o + i * 7 + 3, none⟩ = some (.int .i64 x.at_.1)) := hrow 3 _ rfl
        have HX4 : Hid (w.cell? ⟨b, o + i * 7 + 4, none⟩ = some (.int .i64 x.at_.2)) := hrow 4 _ rfl
        have HX5 : Hid (w.cell? ⟨b, o + i * 7 + 5, none⟩ = some (.string x.vl)) := hrow 5 _ rfl
        have HX6 : Hid (w.cell? ⟨b, o + i * 7 + 6, none⟩ = some (.bool x.gn)) := hrow 6 _ rfl
        clear ex hrow hbl ev2 HSm0
        clear HLs
        have r0 : wr.cell? ⟨b, o + i * 7, none⟩ = some (.int .i64 x.nd.1) := (HM.out.bel.cell (p := ⟨b, o + i * 7, none⟩) HGl.out).trans HX0.out
        have r1 : wr.cell? ⟨b, o + i * 7 + 1, none⟩ = some (.int .i64 x.nd.2) := (HM.out.bel.cell (p := ⟨b, o + i * 7 + 1, none⟩) HGl.out).trans HX1.out
        have r2 : wr.cell? ⟨b, o + i * 7 + 2, none⟩ = some (.string x.nm) := (HM.out.bel.cell (p := ⟨b, o + i * 7 + 2, none⟩) HGl.out).trans HX2.out
        have r3 : wr.cell? ⟨b, o + i * 7 + 3, none⟩ = some (.int .i64 x.at_.1) := (HM.out.bel.cell (p := ⟨b, o + i * 7 + 3, none⟩) HGl.out).trans HX3.out
        have r4 : wr.cell? ⟨b, o + i * 7 + 4, none⟩ = some (.int .i64 x.at_.2) := (HM.out.bel.cell (p := ⟨b, o + i * 7 + 4, none⟩) HGl.out).trans HX4.out
        have r5 : wr.cell? ⟨b, o + i * 7 + 5, none⟩ = some (.string x.vl) := (HM.out.bel.cell (p := ⟨b, o + i * 7 + 5, none⟩) HGl.out).trans HX5.out
        have r6 : wr.cell? ⟨b, o + i * 7 + 6, none⟩ = some (.bool x.gn) := (HM.out.bel.cell (p := ⟨b, o + i * 7 + 6, none⟩) HGl.out).trans HX6.out
        go_wp2_with fail
        clear r0 r1 r2 r3 r4 r5 r6
        refine (put_any F rb (laidT (l.take i)) x _ HM.out.row (by have := HLn.out; omega) HSm.out).mono ?_
        rintro e w7 ⟨rfl, hd⟩
        obtain ⟨F2, hM2, _⟩ := HM.out.did hd
        replace HM : Hid (LdS w rb F2 (.slice a9 (laidT (l.take i)).length c9) (putC (laidT (l.take i)) x) (laidT (l.take i)) w7) := hM2
        clear hd hM2
        have r0 : w7.cell? ⟨b, o + i * 7, none⟩ = some (.int .i64 x.nd.1) := (HM.out.bel.cell (p := ⟨b, o + i * 7, none⟩) HGl.out).trans HX0.out
        have r1 : w7.cell? ⟨b, o + i * 7 + 1, none⟩ = some (.int .i64 x.nd.2) := (HM.out.bel.cell (p := ⟨b, o + i * 7 + 1, none⟩) HGl.out).trans HX1.out
        have r2 : w7.cell? ⟨b, o + i * 7 + 2, none⟩ = some (.string x.nm) := (HM.out.bel.cell (p := ⟨b, o + i * 7 + 2, none⟩) HGl.out).trans HX2.out
        have r3 : w7.cell? ⟨b, o + i * 7 + 3, none⟩ = some (.int .i64 x.at_.1) := (HM.out.bel.cell (p := ⟨b, o + i * 7 + 3, none⟩) HGl.out).trans HX3.out
        have r4 : w7.cell? ⟨b, o + i * 7 + 4, none⟩ = some (.int .i64 x.at_.2) := (HM.out.bel.cell (p := ⟨b, o + i * 7 + 4, none⟩) HGl.out).trans HX4.out
        have r5 : w7.cell? ⟨b, o + i * 7 + 5, none⟩ = some (.string x.vl) := (HM.out.bel.cell (p := ⟨b, o + i * 7 + 5, none⟩) HGl.out).trans HX5.out
        have r6 : w7.cell? ⟨b, o + i * 7 + 6, none⟩ = some (.bool x.gn) := (HM.out.bel.cell (p := ⟨b, o + i * 7 + 6, none⟩) HGl.out).trans HX6.out
        go_wp2_with fail
        clear r0 r1 r2 r3 r4 r5 r6
        refine (refPut_any (fun j => ¬ F2 j ∧ j < w7.heap.size) _ (laidT (l.take i)) x _ HM.out.doc.lo (laidT_best _).srt (by have := HLn.out; omega) HSm.out).mono ?_
        rintro e w8 ⟨v8, rfl, hd, hb⟩
        have HM8 : Hid (LdS w rb F2 v8 (putC (laidT (l.take i)) x) (putC (laidT (l.take i)) x) w8) := HM.out.doc2 hd hb
        clear hd hb HM
        obtain ⟨a8, c8, e8⟩ := HM8.out.doc.form
        subst e8
        go_wp2
        go_roundw
        case rel => exact ⟨i + 1, F2, by go_num, by omega, by omega, by (rw [HNx.out]; exact HM8)⟩
        case measure => simp [intOf]; omega
      · have k2 : ¬ (i : Int) < 200 := by omega
        have HEd : Hid ((laidT (l.take i)) = laidL l) := by (show _ = _; unfold laidL; congr 1; rw [List.take_eq_take_iff]; omega)
        go_wp2
        go_ret2
        exact ⟨rb, F, a9, c9, by (rw [← HEd.out]; rfl), by (rw [← HEd.out]; exact HM.out)⟩
    · have k1 : ¬ (i : Int) < (l.length : Int) := by omega
      have HEd : Hid ((laidT (l.take i)) = laidL l) := by (show _ = _; unfold laidL; congr 1; rw [List.take_eq_take_iff]; omega)
      go_wp2
      go_ret2
      exact ⟨rb, F, a9, c9, by (rw [← HEd.out]; rfl), by (rw [← HEd.out]; exact HM.out)⟩

end Go.Proofs.Ytecliogffcnfiaa
