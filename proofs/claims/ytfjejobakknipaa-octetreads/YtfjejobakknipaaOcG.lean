/- What PutText does. -/
import Derived.Test.YtfjejobakknipaaOcC
namespace Go.Proofs.Ytfjejobakknipaa
open Go.RowKit
set_option linter.unusedVariables false

/-- From block b, offset o on lie these texts. -/
def TextsAt (w : World) (b o : Nat) (ss : List ByteArray) : Prop := ∀ i (h : i < ss.length), w.cell? ⟨b, o + i, none⟩ = some (.string ss[i])
theorem TextsAt.below {w w' : World} {b o : Nat} {d : List ByteArray} (h : TextsAt w b o d) (hb : Below w.heap.size w w') : TextsAt w' b o d := by
  intro i hi
  have h0 := h i hi
  have hlt : b < w.heap.size := World.block_lt_of_cell? w _ h0
  exact (hb.cell (p := ⟨b, o + i, none⟩) hlt).trans h0
/-- The value is a slice of these texts. -/
def IsT (w : World) (v : Value) (ss : List ByteArray) : Prop :=
  ∃ (a : Option Addr) (cap : Nat), v = .slice a ss.length cap ∧ ss.length ≤ cap ∧ ss.length ≤ 17592186044416 ∧ (ss = [] ∨ ∃ b o, a = some ⟨b, o, none⟩ ∧ TextsAt w b o ss)
theorem IsT.below {w w' : World} {v : Value} {d : List ByteArray} (h : IsT w v d) (hb : Below w.heap.size w w') : IsT w' v d := by
  obtain ⟨a, cap, e, hc, hl, h⟩ := h
  exact ⟨a, cap, e, hc, hl, h.imp id fun ⟨b, o, e2, hr⟩ => ⟨b, o, e2, hr.below hb⟩⟩
/-- A text's bytes; those of texts, one behind the other. -/
def textL (s : ByteArray) : List UInt8 := putL s.size ++ s.data.toList
def textsL (ss : List ByteArray) : List UInt8 := ss.flatMap textL
theorem textL_length (s : ByteArray) : (textL s).length = (putL s.size).length + s.size := by
  unfold textL
  rw [List.length_append, Array.length_toList]
  rfl
theorem textsL_snoc {d : List ByteArray} {k : Nat} (h : k < d.length) : textsL (d.take (k + 1)) = textsL (d.take k) ++ textL d[k] := by
  rw [List.take_succ_eq_append_getElem h]; simp only [textsL, List.flatMap_append, List.flatMap_cons, List.flatMap_nil, List.append_nil]
theorem textsL_take (d : List ByteArray) (k : Nat) : (textsL (d.take k)).length ≤ (textsL d).length := by
  conv => rhs; rw [← List.take_append_drop k d]
  simp only [textsL, List.flatMap_append, List.length_append]
  omega

set_option maxRecDepth 100000 in
set_option maxHeartbeats 1000000 in
/-- octet.PutText. -/
theorem putText_any (vb vl : Value) (p : List UInt8) (d : List ByteArray) (w : World) (h1 : IsB w vb p) (h2 : IsT w vl d) (hl : p.length + (textsL d).length ≤ 140737488355328) :
    Calls Try.prog 13 #[vb, vl] w fun e w' => ∃ v', e = .returned v' ∧ OwnB w.heap.size w' v' (p ++ textsL d) ∧ Below w.heap.size w w' := by
  obtain ⟨i0, hi, hz0, hz1, hz2⟩ := info_parts infoByte
  obtain ⟨a2, c2, rfl, hc2, hl2, r2⟩ := h2
  have H1 : Hid (IsB w vb p) := h1
  have HR : Hid (d = [] ∨ ∃ b o, a2 = some ⟨b, o, none⟩ ∧ TextsAt w b o d) := r2
  clear h1 r2
  go_enter Try.func13, Try.ntmps13
  go_wp2_with (at_builtin; refine wpList_copyB rfl _ _ rfl _ p rfl rfl H1.out ?_; intro v1 w1 ho1 hb1)
  have HO1 : Hid (OwnB w.heap.size w1 v1 (p ++ textsL (d.take 0))) := by show OwnB _ _ _ _; simpa [textsL] using ho1
  have HB1 : Hid (Below w.heap.size w w1) := hb1
  clear ho1 hb1
  go_loopw [5, 12] (fun u i wr => ∃ k : Nat, k ≤ d.length ∧ i = .int .i64 (k : Int) ∧ Hid (OwnB w.heap.size wr u (p ++ textsL (d.take k))) ∧ Hid (Below w.heap.size w wr)) (fun _ i _ => d.length - (intOf i).toNat)
  case atStart => exact ⟨0, Nat.zero_le _, rfl, HO1, HB1⟩
  case round =>
    obtain ⟨k, hk, rfl, HO, HB⟩ := hrel
    have hsz := HB.out.size
    by_cases hlt : k < d.length
    · obtain ⟨b1, o1, rfl, g1⟩ := HR.out.resolve_left (by intro e; subst e; simp at hlt)
      have x1 := (g1.below HB.out) k hlt
      clear g1
      have k1 : (k : Int) < (d.length : Int) := by omega
      have k0 : (0 : Int) ≤ (k : Int) := by omega
      have HTS : Hid (p ++ textsL (d.take (k + 1)) = ((p ++ textsL (d.take k)) ++ putL d[k].size) ++ d[k].data.toList) := by show _ = _; rw [textsL_snoc hlt, textL]; simp
      have hlen : (p ++ textsL (d.take k)).length + (putL d[k].size).length + d[k].size ≤ 140737488355328 := by
        have h1 := congrArg List.length (textsL_snoc hlt)
        have h2 := textsL_take d (k + 1)
        rw [List.length_append, textL_length] at h1
        rw [List.length_append]
        omega
      generalize d[k] = x at *
      have HLen : Hid ((p ++ textsL (d.take k)).length + (putL ((x.size : Nat) : Int).toNat).length ≤ 140737488355328) := by show _ ≤ _; rw [Int.toNat_natCast]; omega
      have hx : x.size ≤ 140737488355328 := by omega
      go_wp2_with fail
      refine (appendNumber_any _ _ _ (x.size : Int) _ (by omega) HO.out hsz HLen.out).mono ?_
      rintro e w2 ⟨v2, rfl, ho2, hb2⟩
      rw [Int.toNat_natCast] at ho2
      have HO2 : Hid (OwnB w.heap.size w2 v2 ((p ++ textsL (d.take k)) ++ putL x.size)) := ho2
      have HB2 : Hid (Below w.heap.size w w2) := HB.out.trans hb2
      have hsz2 := HB2.out.size
      clear ho2 hb2
      go_wp2_with (at_builtin; refine Lib.wpList_append_own_string _ rfl _ _ 22 9 rfl w.heap.size 5 i0 Try.underlying22 Try.underlying9 hi hz0 hz1 hz2 _ _ _ rfl HO2.out x rfl (by unfold maxLen; rw [List.length_append]; omega) (by rw [List.length_append]; omega) hsz2 ?_; intro v3 w3 hown3 hgrow3 hnil3)
      have HO3 : Hid (OwnB w.heap.size w3 v3 (p ++ textsL (d.take (k + 1)))) := by
        show OwnB _ _ _ _
        rw [HTS.out]
        refine OwnB.more hown3 ?_ (by rw [strCells_eq])
        rw [Array.length_toList]; rfl
      have HB3 : Hid (Below w.heap.size w w3) := HB2.out.grown hgrow3 hsz2 (fun j e => (World.ownsRow.lt HO2.out j e).1)
      go_roundw
      case rel => exact ⟨k + 1, by omega, by go_num, HO3, HB3⟩
      case measure => simp [intOf]; omega
    · obtain rfl : k = d.length := by omega
      have HTK : Hid (d.take d.length = d) := List.take_length
      rw [HTK.out] at HO
      go_wp2
      go_ret
      exact ⟨_, rfl, HO.out, HB.out⟩

end Go.Proofs.Ytfjejobakknipaa
