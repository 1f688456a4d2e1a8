/- What Put, PutText and New do. -/
import Derived.Test.YtfjejobakknipaaOcA
namespace Go.Proofs.Ytfjejobakknipaa
open Go.RowKit
set_option linter.unusedVariables false

/-- The bytes of numbers, one behind the other. -/
def putsL (d : List Int) : List UInt8 := d.flatMap fun n => putL n.toNat
theorem putsL_snoc {d : List Int} {k : Nat} (h : k < d.length) : putsL (d.take (k + 1)) = putsL (d.take k) ++ putL d[k].toNat := by
  rw [List.take_succ_eq_append_getElem h]; simp only [putsL, List.flatMap_append, List.flatMap_cons, List.flatMap_nil, List.append_nil]
theorem putsL_take (d : List Int) (k : Nat) : (putsL (d.take k)).length ≤ (putsL d).length := by
  conv => rhs; rw [← List.take_append_drop k d]
  simp only [putsL, List.flatMap_append, List.length_append]
  omega

set_option maxRecDepth 100000 in
set_option maxHeartbeats 1000000 in
/-- octet.Put. -/
theorem put_any (vb vl : Value) (p : List UInt8) (d : List Int) (w : World) (h1 : IsB w vb p) (h2 : IsI w vl d) (hd : ∀ x ∈ d, x < 9223372036854775808) (hl : p.length + (putsL d).length ≤ 140737488355328) :
    Calls Try.prog 11 #[vb, vl] w fun e w' => ∃ v', e = .returned v' ∧ OwnB w.heap.size w' v' (p ++ putsL d) ∧ Below w.heap.size w w' := by
  obtain ⟨a2, c2, rfl, hc2, hl2, r2⟩ := h2
  have H1 : Hid (IsB w vb p) := h1
  have HR : Hid (d = [] ∨ ∃ b o, a2 = some ⟨b, o, none⟩ ∧ IntsAt w b o d) := r2
  have HD : Hid (∀ x ∈ d, x < 9223372036854775808) := hd
  clear h1 r2 hd
  go_enter Try.func11, Try.ntmps11
  go_wp2_with (at_builtin; refine wpList_copyB rfl _ _ rfl _ p rfl rfl H1.out ?_; intro v1 w1 ho1 hb1)
  have HO1 : Hid (OwnB w.heap.size w1 v1 (p ++ putsL (d.take 0))) := by show OwnB _ _ _ _; simpa [putsL] using ho1
  have HB1 : Hid (Below w.heap.size w w1) := hb1
  clear ho1 hb1
  go_loopw [5, 12] (fun u i wr => ∃ k : Nat, k ≤ d.length ∧ i = .int .i64 (k : Int) ∧ Hid (OwnB w.heap.size wr u (p ++ putsL (d.take k))) ∧ Hid (Below w.heap.size w wr)) (fun _ i _ => d.length - (intOf i).toNat)
  case atStart => exact ⟨0, Nat.zero_le _, rfl, HO1, HB1⟩
  case round =>
    obtain ⟨k, hk, rfl, HO, HB⟩ := hrel
    have hsz := HB.out.size
    by_cases hlt : k < d.length
    · obtain ⟨b1, o1, rfl, g1⟩ := HR.out.resolve_left (by intro e; subst e; simp at hlt)
      have x1 := (g1.below HB.out) k hlt
      clear g1
      have hx := HD.out d[k] (List.getElem_mem hlt)
      have k1 : (k : Int) < (d.length : Int) := by omega
      have k0 : (0 : Int) ≤ (k : Int) := by omega
      have HTS : Hid (p ++ putsL (d.take (k + 1)) = (p ++ putsL (d.take k)) ++ putL d[k].toNat) := by show _ = _; rw [putsL_snoc hlt]; simp
      have hlen : (p ++ putsL (d.take k)).length + (putL d[k].toNat).length ≤ 140737488355328 := by
        have h1 := congrArg List.length HTS.out
        have h2 := putsL_take d (k + 1)
        simp only [List.length_append] at h1 ⊢
        omega
      generalize d[k] = x at *
      have HLen : Hid ((p ++ putsL (d.take k)).length + (putL x.toNat).length ≤ 140737488355328) := hlen
      have HX : Hid (x < 9223372036854775808) := hx
      clear hlen hx
      go_wp2_with fail
      refine (appendNumber_any _ _ _ x _ HX.out HO.out hsz HLen.out).mono ?_
      rintro e w2 ⟨v2, rfl, ho2, hb2⟩
      have HO2 : Hid (OwnB w.heap.size w2 v2 (p ++ putsL (d.take (k + 1)))) := by show OwnB _ _ _ _; rw [HTS.out]; exact ho2
      have HB2 : Hid (Below w.heap.size w w2) := HB.out.trans hb2
      clear ho2 hb2
      go_wp2
      go_roundw
      case rel => exact ⟨k + 1, by omega, by go_num, HO2, HB2⟩
      case measure => simp [intOf]; omega
    · obtain rfl : k = d.length := by omega
      have HTK : Hid (d.take d.length = d) := List.take_length
      rw [HTK.out] at HO
      go_wp2
      go_ret
      exact ⟨_, rfl, HO.out, HB.out⟩

theorem OwnB.rows {B : Nat} {w : World} {v : Value} {p : List UInt8} (h : OwnB B w v p) :
    ∃ a cap, v = .slice a p.length cap ∧ p.length ≤ cap ∧ (p = [] ∨ ∃ b o, a = some ⟨b, o, none⟩ ∧ B ≤ b ∧ b < w.heap.size ∧ BytesAt w b o p) := by
  have h0 := h
  rcases h.2 with ⟨rfl, hn⟩ | ⟨g, cap, cur, rfl, hg, hc, hcap, rest⟩
  · have e : p = [] := List.eq_nil_of_length_eq_zero hn
    subst e
    exact ⟨none, 0, rfl, Nat.le_refl _, .inl rfl⟩
  · refine ⟨_, cap, rfl, hcap, .inr ⟨g, 0, rfl, hg, (Array.getElem?_eq_some_iff.1 hc).1, fun i hi => ?_⟩⟩
    have := h0.cellAt i (by omega)
    rw [show 0 + i = i by omega, this]
    simp [cellsB, hi]

set_option maxRecDepth 100000 in
set_option maxHeartbeats 1000000 in
/-- octet.New. -/
theorem new_any (v : Value) (p : List UInt8) (w : World) (h1 : IsB w v p) :
    Calls Try.prog 15 #[v] w fun e w' => ∃ g, e = .returned (.pointer (some ⟨g, 0, none⟩)) ∧ RdIs w.heap.size w' g p 0 0 ∧ Below w.heap.size w w' := by
  have H1 : Hid (IsB w v p) := h1
  have hl := h1.len
  clear h1
  go_enter Try.func15, Try.ntmps15
  go_wp2_with (at_builtin; refine wpList_copyB rfl _ _ rfl _ p rfl rfl H1.out ?_; intro v1 w1 ho1 hb1; obtain ⟨a1, c1, rfl, hc1, hl1, r1⟩ := ho1.isB hl; have HO : Hid (OwnB w.heap.size w1 (.slice a1 p.length c1) p) := ho1; have HB : Hid (Below w.heap.size w w1) := hb1; clear ho1 hb1 r1)
  obtain ⟨a2, c2, e2, _, r2⟩ := HO.out.rows
  cases e2
  go_ret
  refine ⟨_, rfl, ⟨a1, c1, heap_alloc_new _ _, HB.out.size, hc1, hl1, Nat.zero_le _, ?_⟩, HB.out.alloc HB.out.size _⟩
  refine r2.imp id fun ⟨b, o, e, hB, hlt, hA⟩ => ⟨b, o, e, hB, by omega, ?_⟩
  exact hA.below ((Below.refl _ _).alloc (Nat.le_refl _) _)

end Go.Proofs.Ytfjejobakknipaa
