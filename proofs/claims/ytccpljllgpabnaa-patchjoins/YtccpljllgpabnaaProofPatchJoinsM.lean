/- PatchJoins of package topiarylaw17 is proved at this commit, in its second form: for every input (a tree, a list of steps, a list of steps) of bulk at most 1048576 the call returns true and the arguments read as they did. (The first form is false by size alone.) -/
import Derived.Test.YtccpljllgpabnaaPaN
import Derived.Test.YtccpljllgpabnaaPaO
import Derived.Lib.Bytealg
import Derived.Laws.CopyOwn
import Derived.Laws.Externs
import Derived.Lib.Overlaps
import Derived.Lib.AppendZerosOnto
import Derived.Shelf.Spec.SlicesInsert
import Derived.Lib.SlicesDelete
import Derived.Deep.RegionLaw
import Derived.Shelf.RegionOpenPlain
import Derived.Lib.SliceRun
import Derived.Laws.OwnMore
import Derived.Test.YtccpljllgpabnaaVtU
import Derived.Test.YtccpljllgpabnaaBasePp
import Derived.Deep.CondSized
namespace Go.Proofs.Ytccpljllgpabnaa
set_option linter.unusedVariables false
set_option linter.unusedSimpArgs false

theorem stepU_k (p : Pa) (T : VT) (H : List VT) : (stepU p T H).2.1.k = T.k := by
  unfold stepU
  repeat' split
  all_goals first | rfl | exact cutV_k _ _ | exact insV_k _ _ _ _ | exact (insV_k _ _ _ _).trans (cutV_k _ _) | exact withV_k _ _ _
theorem runP_le : ∀ (L : List Pa) (i : Nat) (T : VT) (H : List VT), (runP L i T H).2.1 ≤ i + L.length
  | [], i, T, H => by simp [runP]
  | p :: r, i, T, H => by
    rw [runP]
    split
    · simp
    · split
      · simp
      · have := runP_le r (i + 1) (stepU p T H).2.1 (stepU p T H).2.2
        simp only [List.length_cons]
        omega
theorem runP_ok : ∀ (L : List Pa) (i : Nat) (T : VT) (H : List VT), OkB T H → (runP L i T H).1 = 0 → OkB (runP L i T H).2.2.1 (runP L i T H).2.2.2 ∧ (runP L i T H).2.2.1.k = T.k
  | [], i, T, H, h, _ => ⟨h, rfl⟩
  | p :: r, i, T, H, h, e => by
    rw [runP] at e ⊢
    split at e
    · rename_i h1; exact absurd e h1
    · rename_i h1
      rw [if_neg h1]
      split at e
      · rename_i h2; exact absurd e h2
      · rename_i h2
        rw [if_neg h2]
        obtain ⟨k1, k2⟩ := runP_ok r (i + 1) _ _ (h.step (by simpa using h1) (by simpa using h2)) e
        exact ⟨k1, k2.trans (stepU_k p T H)⟩
theorem appR_err {t : VT} {L : List Pa} (h : (appR t L).2.2 ≠ 0) : (appR t L).1 = tZe ∧ (appR t L).2.1 ≤ L.length := by
  unfold appR at h ⊢
  split
  · exact ⟨rfl, Nat.zero_le _⟩
  · rename_i h1
    rw [if_neg h1] at h
    split
    · exact ⟨rfl, by have := runP_le L 0 t []; simpa using this⟩
    · rename_i h2
      rw [if_neg h2] at h
      split
      · rename_i h3; rw [if_pos h3] at h; exact absurd rfl h
      · exact ⟨rfl, Nat.le_refl _⟩
theorem appR_ok {t : VT} {L : List Pa} (h : (appR t L).2.2 = 0) : OkB (appR t L).1 [] ∧ (appR t L).1.k = t.k ∧ (appR t L).2.1 = L.length := by
  unfold appR at h ⊢
  split
  · rename_i h1; rw [if_pos h1] at h; exact absurd h h1
  · rename_i h1
    rw [if_neg h1] at h
    split
    · rename_i h2; rw [if_pos h2] at h; exact absurd h h2
    · rename_i h2
      rw [if_neg h2] at h
      split
      · rename_i h3
        have h4 := runP_ok L 0 t [] ((chkT_iff t).1 (by simpa using h1)) (by simpa using h2)
        rw [h3] at h4
        exact ⟨h4.1, h4.2, rfl⟩
      · rename_i h3; rw [if_neg h3] at h; cases h
theorem name_sz {s : ByteArray} (h : nameL (txL s) = true) : s.size ≤ 281474976710656 := by
  unfold nameL at h
  rw [Bool.and_eq_true, decide_eq_true_eq] at h
  have h2 : (txL s).length = s.size := by simp [txL]
  omega
theorem bnT_of {t : VT} (h : chkF t.nf = 0) : BnT t := by
  obtain ⟨h1, _, _, h4⟩ := chkF_parts h
  exact ⟨name_sz h1, fun x hx => name_sz ((names_lt h4).1 x hx).1⟩

end Go.Proofs.Ytccpljllgpabnaa

namespace Go.Proofs.Ytccpljllgpabnaa
set_option linter.unusedVariables false

theorem runP_cons (p : Pa) (r : List Pa) (i : Nat) (T : VT) (H : List VT) : runP (p :: r) i T H = if chkP p ≠ 0 then (chkP p, i, T, H) else if (stepU p T H).1 ≠ 0 then ((stepU p T H).1, i, T, H) else runP r (i + 1) (stepU p T H).2.1 (stepU p T H).2.2 := by rw [runP]
theorem runP_app : ∀ (L M : List Pa) (i : Nat) (T : VT) (H : List VT), (runP L i T H).1 = 0 → runP (L ++ M) i T H = runP M (i + L.length) (runP L i T H).2.2.1 (runP L i T H).2.2.2
  | [], M, i, T, H, _ => rfl
  | p :: r, M, i, T, H, e => by
    rw [List.cons_append]
    rw [runP_cons] at e
    rw [runP_cons, runP_cons p r]
    split at e
    · rename_i h1; exact absurd e h1
    · rename_i h1
      rw [if_neg h1, if_neg h1]
      split at e
      · rename_i h2; exact absurd e h2
      · rename_i h2
        rw [if_neg h2, if_neg h2, runP_app r M (i + 1) _ _ e, List.length_cons, Nat.add_assoc, Nat.add_comm 1]
theorem runP_from : ∀ (M : List Pa) (i : Nat) (T : VT) (H : List VT), runP M i T H = ((runP M 0 T H).1, i + (runP M 0 T H).2.1, (runP M 0 T H).2.2)
  | [], i, T, H => rfl
  | p :: r, i, T, H => by
    rw [runP_cons p r i, runP_cons p r 0]
    by_cases h1 : chkP p ≠ 0
    · rw [if_pos h1, if_pos h1]; rfl
    · rw [if_neg h1, if_neg h1]
      by_cases h2 : (stepU p T H).1 ≠ 0
      · rw [if_pos h2, if_pos h2]; rfl
      · rw [if_neg h2, if_neg h2, runP_from r (i + 1), runP_from r (0 + 1)]
        simp [Nat.add_assoc]
/-- What both do is what they do as one. -/
theorem appR_join {t : VT} {L M : List Pa} (h : (appR t L).2.2 = 0) : appR t (L ++ M) = if (appR (appR t L).1 M).2.2 = 0 then ((appR (appR t L).1 M).1, (L ++ M).length, 0) else (tZe, L.length + (appR (appR t L).1 M).2.1, (appR (appR t L).1 M).2.2) := by
  have hu := (chkT_iff _).2 (appR_ok h).1
  by_cases h1 : chkT t ≠ 0
  · have h9 := h
    unfold appR at h9
    rw [if_pos h1] at h9
    exact absurd h9 h1
  · by_cases h2 : (runP L 0 t []).1 ≠ 0
    · have h9 := h
      unfold appR at h9
      rw [if_neg h1, if_pos h2] at h9
      exact absurd h9 h2
    · by_cases h3 : (runP L 0 t []).2.2.2 = []
      · have e : appR t L = ((runP L 0 t []).2.2.1, L.length, 0) := by unfold appR; rw [if_neg h1, if_neg h2, if_pos h3]
        rw [e] at hu ⊢
        dsimp only at hu ⊢
        have e2 : runP (L ++ M) 0 t [] = ((runP M 0 (runP L 0 t []).2.2.1 []).1, L.length + (runP M 0 (runP L 0 t []).2.2.1 []).2.1, (runP M 0 (runP L 0 t []).2.2.1 []).2.2) := by
          rw [runP_app L M 0 t [] (by simpa using h2), h3, runP_from]
          simp
        unfold appR
        rw [if_neg h1, if_neg (show ¬ chkT (runP L 0 t []).2.2.1 ≠ 0 from fun x => x hu), e2]
        dsimp only
        by_cases h4 : (runP M 0 (runP L 0 t []).2.2.1 []).1 ≠ 0
        · rw [if_pos h4, if_pos h4, if_neg h4]
        · rw [if_neg h4, if_neg h4]
          by_cases h5 : (runP M 0 (runP L 0 t []).2.2.1 []).2.2.2 = []
          · rw [if_pos h5, if_pos h5, if_pos rfl]
          · rw [if_neg h5, if_neg h5, if_neg (show ¬ (7 : Int) = 0 by decide), List.length_append]
      · have h9 := h
        unfold appR at h9
        rw [if_neg h1, if_neg h2, if_neg h3] at h9
        cases h9

end Go.Proofs.Ytccpljllgpabnaa

namespace Go.Proofs.Ytccpljllgpabnaa
open Go.RowKit
set_option linter.unusedVariables false
set_option linter.unusedSimpArgs false

theorem cmpB_lt : ∀ (a b : List UInt8), (Lib.compareBytes a b < 0) ↔ a < b
  | [], [] => by simp [Lib.compareBytes]
  | [], _ :: _ => by simp [Lib.compareBytes]
  | _ :: _, [] => by simp [Lib.compareBytes]
  | a :: ar, b :: br => by
    rw [Lib.compareBytes, List.cons_lt_cons_iff]
    by_cases h1 : a < b
    · simp [h1]
    · rw [if_neg h1]
      by_cases h2 : b < a
      · have h3 : a ≠ b := fun e => by rw [e] at h2; exact UInt8.lt_irrefl _ h2
        rw [if_pos h2]
        simp [h1, h3]
      · have e : a = b := UInt8.le_antisymm (UInt8.not_lt.1 h2) (UInt8.not_lt.1 h1)
        rw [if_neg h2, cmpB_lt ar br]
        simp [e]
theorem cmpB_eq : ∀ (a b : List UInt8), Lib.compareBytes a b = 0 ↔ a = b
  | [], [] => by simp [Lib.compareBytes]
  | [], _ :: _ => by simp [Lib.compareBytes]
  | _ :: _, [] => by simp [Lib.compareBytes]
  | a :: ar, b :: br => by
    rw [Lib.compareBytes, List.cons.injEq]
    by_cases h1 : a < b
    · have h3 : a ≠ b := fun e => by rw [e] at h1; exact UInt8.lt_irrefl _ h1
      simp [h1, h3]
    · rw [if_neg h1]
      by_cases h2 : b < a
      · have h3 : a ≠ b := fun e => by rw [e] at h2; exact UInt8.lt_irrefl _ h2
        rw [if_pos h2]
        simp [h3]
      · have e : a = b := UInt8.le_antisymm (UInt8.not_lt.1 h2) (UInt8.not_lt.1 h1)
        rw [if_neg h2, cmpB_eq ar br]
        simp [e]
def cmpT (a b : ByteArray) : Int := Lib.compareBytes (txL a) (txL b)
theorem cmpT_lt (a b : ByteArray) : decide (cmpT a b < 0) = ltT a b := decide_eq_decide.2 (cmpB_lt _ _)
theorem cmpT_eq (a b : ByteArray) : (cmpT a b == 0) = decide (a = b) := by
  rw [Bool.eq_iff_iff, beq_iff_eq, decide_eq_true_eq]
  exact (cmpB_eq _ _).trans ⟨tx_ext, fun e => by rw [e]⟩

set_option maxRecDepth 100000 in
set_option maxHeartbeats 2000000 in
theorem cmpN_any (a b : ByteArray) (w : World) : Calls Try.prog 113 #[.string a, .string b] w fun e w' => e = .returned (.int .i64 (cmpT a b)) ∧ w' = w := by
  go_enter Try.func113, Try.ntmps113
  go_wp2
  rw [run_callFunc_extern Try.func121 (by kernel_rfl) (by kernel_rfl) (by kernel_rfl) (e := Extern.BytealgCompare.compare) (by kernel_rfl), Lib.run_compareString]
  simp only [Result.andThen]
  rw [Oper.upon_value]
  go_wp2
  go_ret
  exact ⟨rfl, rfl⟩
theorem cmpStr_any (a b : ByteArray) (w : World) : Calls Try.prog 103 #[.string a, .string b] w fun e w' => e = .returned (.int .i64 (cmpT a b)) ∧ w' = w := by
  go_enter Try.func103, Try.ntmps103
  go_wp2_with (go_at_call 113; refine (cmpN_any _ _ _).mono ?_; rintro e w1 ⟨rfl, rfl⟩)
  go_ret
  exact ⟨rfl, rfl⟩
theorem cmpA_any (x : At) (nm : ByteArray) (w : World) : Calls Try.prog 102 #[.agg #[.string x.1, .string x.2], .string nm] w fun e w' => e = .returned (.int .i64 (cmpT x.1 nm)) ∧ Below w.heap.size w w' := by
  have b0 : (w.alloc (.cells #[.string x.1, .string x.2] 86)).cell? ⟨w.heap.size, 0, none⟩ = some (.string x.1) := by rw [cell_of_row _ _ _ _ _ _ (heap_alloc_new w _)]; rfl
  go_enter Try.func102, Try.ntmps102
  go_wp2_with (go_at_call 103; refine (cmpStr_any _ _ _).mono ?_; rintro e w1 ⟨rfl, rfl⟩)
  go_ret
  exact ⟨rfl, (Below.refl _ _).alloc (Nat.le_refl _) _⟩

/-- Where a name stands, or would. -/
def PlcA (R : List At) (nm : ByteArray) (i : Nat) : Prop := i ≤ R.length ∧ (∀ j (h : j < R.length), j < i → ltT R[j].1 nm = true) ∧ ∀ j (h : j < R.length), i ≤ j → ltT R[j].1 nm = false
/-- What a search answers. -/
def SrchA (R : List At) (nm : ByteArray) (w : World) (e : Ending) (w' : World) : Prop := ∃ (i : Nat) (b : Bool), e = .returned (.tuple #[.int .i64 (i : Int), .bool b]) ∧ PlcA R nm i ∧ b = decide (∃ h : i < R.length, R[i].1 = nm) ∧ Below w.heap.size w w'

set_option maxRecDepth 100000 in
set_option maxHeartbeats 4000000 in
theorem searchA_any (B : Nat) (v : Value) (R : List At) (nm : ByteArray) (w : World) (h : OwnAt B w v R) (hl : R.length ≤ 4096) (hs : R.Pairwise fun a b => ltT a.1 b.1 = true) :
    Calls Try.prog 101 #[v, .string nm, .func (.func 102) #[] #[]] w fun e w' => SrchA R nm w e w' := by
  have HS : Hid (∀ i j (hi : i < R.length) (hj : j < R.length), i < j → ltT R[i].1 R[j].1 = true) := fun i j hi hj hij => List.pairwise_iff_getElem.1 hs i j hi hj hij
  obtain ⟨a0, c0, e0⟩ := OwnE.form h
  subst e0
  have HO := hide9 h
  clear h hs
  go_enter Try.func101, Try.ntmps101
  go_wp2
  go_loopw [9, 10] (fun iv jv wr => ∃ lo hi : Nat, iv = .int .i64 (lo : Int) ∧ jv = .int .i64 (hi : Int) ∧ lo ≤ hi ∧ hi ≤ R.length ∧ Hid (∀ j (h : j < R.length), j < lo → ltT R[j].1 nm = true) ∧ Hid (∀ j (h : j < R.length), hi ≤ j → ltT R[j].1 nm = false) ∧ Hid (Below w.heap.size w wr)) (fun iv jv _ => (intOf jv).toNat - (intOf iv).toNat)
  case atStart => exact ⟨0, R.length, rfl, rfl, Nat.zero_le _, Nat.le_refl _, fun j _ h => absurd h (Nat.not_lt_zero _), fun j h1 h2 => absurd h1 (by omega), Below.refl _ _⟩
  case round =>
    obtain ⟨lo, hi, rfl, rfl, hlh, hhl, H1, H2, HK⟩ := hrel
    by_cases hlt : lo < hi
    · have k1 : (lo : Int) < (hi : Int) := by omega
      obtain ⟨m, hm⟩ : ∃ m : Nat, m = (lo + hi) / 2 := ⟨_, rfl⟩
      have hmd : m < R.length := by omega
      have hm1 : lo ≤ m := by omega
      have hm2 : m < hi := by omega
      have HM : Hid (((lo : Int) + (hi : Int)) / 2 = (m : Int)) := by show _ = _; omega
      clear hm
      obtain ⟨g, cap, ev, hcap, hcs, _⟩ := OwnE.cells atCells_len HO.out hmd
      injection ev with e1 e8 e9
      subst e1
      clear e8 e9
      have hgl := (OwnE.lt HO.out g rfl).2
      obtain ⟨x, hx⟩ : ∃ x, x = R[m] := ⟨_, rfl⟩
      rw [← hx] at hcs
      have p0 : wr.cell? ⟨g, m * 2, none⟩ = some (.string x.1) := (HK.out.cell (p := ⟨g, m * 2, none⟩) hgl).trans (hcs 0 _ rfl)
      have p1 : wr.cell? ⟨g, m * 2 + 1, none⟩ = some (.string x.2) := (HK.out.cell (p := ⟨g, m * 2 + 1, none⟩) hgl).trans (hcs 1 _ rfl)
      have HL : Hid (ltT R[m].1 nm = ltT x.1 nm) := by rw [hx]; exact rfl
      obtain ⟨cv, hcv⟩ : ∃ cv, cv = cmpT x.1 nm := ⟨_, rfl⟩
      have HC : Hid (decide (cv < 0) = ltT x.1 nm) := by rw [hcv]; exact cmpT_lt x.1 nm
      have HCv := hide9 hcv
      clear hx hcs hcap hcv hgl
      have km : (m : Int) < (R.length : Int) := by omega
      have km0 : (0 : Int) ≤ (m : Int) := by omega
      go_upto_region 5 with fail
      rw [HM.out]
      clear HM
      by_cases hc : cv < 0
      · have hcd : decide (cv < 0) = true := by simp [hc]
        have H1b : Hid (∀ j (h : j < R.length), j < m + 1 → ltT R[j].1 nm = true) := fun j hj hjm => by
          have hmt : ltT R[m].1 nm = true := by rw [HL.out, ← HC.out, hcd]
          rcases Nat.lt_or_ge j m with h' | h'
          · exact ltT_trans (HS.out j m hj hmd h') hmt
          · obtain rfl : j = m := by omega
            exact hmt
        clear hcd
        go_wp2_with (go_at_call 102; refine (cmpA_any x nm _).mono ?_; rintro e w1 ⟨rfl, hb⟩; rw [← HCv.out]; have HK1 : Hid (Below w.heap.size w w1) := HK.out.trans (hb.mono HK.out.size); clear hb p0 p1)
        go_roundw
        case rel => exact ⟨m + 1, hi, by first | rfl | go_num, rfl, by omega, by omega, H1b, H2, HK1⟩
        case measure => simp [intOf]; omega
      · have hcd : decide (cv < 0) = false := by simp [hc]
        have H2b : Hid (∀ j (h : j < R.length), m ≤ j → ltT R[j].1 nm = false) := fun j hj hjm => by
          have hmt : ltT R[m].1 nm = false := by rw [HL.out, ← HC.out, hcd]
          rcases Nat.lt_or_ge m j with h' | h'
          · cases hx : ltT R[j].1 nm with
            | false => rfl
            | true => rw [ltT_trans (HS.out m j hmd hj h') hx] at hmt; cases hmt
          · obtain rfl : j = m := by omega
            exact hmt
        clear hcd
        go_wp2_with (go_at_call 102; refine (cmpA_any x nm _).mono ?_; rintro e w1 ⟨rfl, hb⟩; rw [← HCv.out]; have HK1 : Hid (Below w.heap.size w w1) := HK.out.trans (hb.mono HK.out.size); clear hb p0 p1)
        go_roundw
        case rel => exact ⟨lo, m, rfl, by first | rfl | go_num, by omega, by omega, H1, H2b, HK1⟩
        case measure => simp [intOf]; omega
    · obtain rfl : hi = lo := by omega
      have HPl : Hid (PlcA R nm hi) := ⟨hhl, H1.out, H2.out⟩
      clear hlh
      by_cases hn : hi < R.length
      · obtain ⟨g, cap, ev, hcap, hcs, _⟩ := OwnE.cells atCells_len HO.out hn
        injection ev with e1 e8 e9
        subst e1
        clear e8 e9
        have hgl := (OwnE.lt HO.out g rfl).2
        obtain ⟨x, hx⟩ : ∃ x, x = R[hi] := ⟨_, rfl⟩
        rw [← hx] at hcs
        have p0 : wr.cell? ⟨g, hi * 2, none⟩ = some (.string x.1) := (HK.out.cell (p := ⟨g, hi * 2, none⟩) hgl).trans (hcs 0 _ rfl)
        have p1 : wr.cell? ⟨g, hi * 2 + 1, none⟩ = some (.string x.2) := (HK.out.cell (p := ⟨g, hi * 2 + 1, none⟩) hgl).trans (hcs 1 _ rfl)
        have HEq : Hid ((cmpT x.1 nm == 0) = decide (∃ h : hi < R.length, R[hi].1 = nm)) := by
          show _ = _
          rw [cmpT_eq]
          exact decide_eq_decide.2 ⟨fun e => ⟨hn, by rw [← hx]; exact e⟩, fun ⟨_, e⟩ => by rw [← hx] at e; exact e⟩
        have k1 : ¬ (hi : Int) < (hi : Int) := by omega
        have km : (hi : Int) < (R.length : Int) := by omega
        have km0 : (0 : Int) ≤ (hi : Int) := by omega
        obtain ⟨bv, hbv⟩ : ∃ bv, bv = (cmpT x.1 nm == 0) := ⟨_, rfl⟩
        have HBv := hide9 hbv
        clear hx hcs hcap hgl hbv
        go_wp2_with (go_at_call 102; refine (cmpA_any x nm _).mono ?_; rintro e w1 ⟨rfl, hb⟩; have HK1 : Hid (Below w.heap.size w w1) := HK.out.trans (hb.mono HK.out.size); clear hb p0 p1)
        go_ret2
        exact ⟨hi, _, rfl, HPl.out, HEq.out, HK1.out⟩
      · have HEq : Hid (false = decide (∃ h : hi < R.length, R[hi].1 = nm)) := (decide_eq_false (fun ⟨h, _⟩ => hn h)).symm
        have k1 : ¬ (hi : Int) < (hi : Int) := by omega
        have km : ¬ (hi : Int) < (R.length : Int) := by omega
        go_wp2
        go_ret2
        exact ⟨hi, _, rfl, HPl.out, HEq.out, HK.out⟩

end Go.Proofs.Ytccpljllgpabnaa

namespace Go.Proofs.Ytccpljllgpabnaa
open Go.RowKit
set_option linter.unusedVariables false
set_option linter.unusedSimpArgs false

theorem sizeAttr : (Try.prog.info? 86).map (·.size) = some 2 := by kernel_rfl
theorem sizeOfAttr (w : World) : (Go.sizeOf 86).run Try.prog w = .ok 2 w := by kernel_rfl
/-- copy, of rows. -/
theorem run_copyM (w : World) (ty : TypeId) (g o dLen dCap : Nat) (a : Addr) (sLen sCap : Nat) (cur : List Value) (t : TypeId) (cs : List Value) (n : Nat)
    (hg : w.heap[g]? = some (.cells cur.toArray t (0, 0))) (hn : n = Nat.min sLen dLen) (hc : cs.length = n * 2)
    (hsrc : ∀ j v, cs[j]? = some v → w.cell? (a.add j) = some v) (hfit : o + cs.length ≤ cur.length) (h1 : ∀ v ∈ cs, v.oneCell' = true) :
    (Builtin.copy_ #[30, 30] ty #[.slice (some ⟨g, o, none⟩) dLen dCap, .slice (some a) sLen sCap]).run Try.prog w = .ok (goInt n) (w.setRow g (splice cur o cs).toArray) := by
  have hl := run_loadCells_list (P := Try.prog) w a cs hsrc
  have hst := run_storeCells_at Try.prog g o t cs 0 cur.toArray w hg (by simpa using hfit) h1
  have hq := sizeAttr
  cases hi : Try.prog.info? 86 with
  | none => simp [hi] at hq
  | some i =>
    have hz : i.size = 2 := by simpa [hi] using hq
    rw [hc] at hl
    simp [Builtin.copy_, run_underlying Try.underlying30, Builtin.lenOf, Builtin.firstCells, sizeOf, typeInfo, hi, hz, ← hn, hl, hst, splice]

theorem atCells_one (x : At) : ∀ u ∈ atCells x, u.oneCell' = true := by
  intro u hu
  simp only [atCells, List.mem_cons, List.not_mem_nil, or_false] at hu
  rcases hu with rfl | rfl <;> rfl
theorem flat_one (D : List At) : ∀ u ∈ flatE atCells D, u.oneCell' = true := by
  intro u hu
  simp only [flatE, List.mem_flatMap] at hu
  obtain ⟨x, _, hu⟩ := hu
  exact atCells_one x u hu
theorem infoAttr : (Try.prog.info? 86).map (fun i => (i.zero, i.size, i.bytes)) = some (some (.agg #[.string ⟨#[]⟩, .string ⟨#[]⟩]), 2, 32) := by kernel_rfl
/-- Two cells between the parts of a row: in place, .. -/
theorem splice_room (X Y Z N : List Value) (hN : N.length = 2) (hZ : 2 ≤ Z.length) : splice (splice (X ++ (Y ++ Z)) (X.length + 2) Y) X.length N = X ++ (N ++ (Y ++ Z.drop 2)) := by
  unfold splice
  have e1 : ((X ++ (Y ++ Z)).take (X.length + 2) ++ (Y ++ (X ++ (Y ++ Z)).drop (X.length + 2 + Y.length))).take X.length = X := by
    rw [List.take_append_of_le_length (by simp), List.take_take, Nat.min_eq_left (by omega), List.take_left]
  have e2 : ((X ++ (Y ++ Z)).take (X.length + 2) ++ (Y ++ (X ++ (Y ++ Z)).drop (X.length + 2 + Y.length))).drop (X.length + N.length) = Y ++ (X ++ (Y ++ Z)).drop (X.length + 2 + Y.length) := by
    have hl : ((X ++ (Y ++ Z)).take (X.length + 2)).length = X.length + N.length := by simp; omega
    rw [← hl, List.drop_left]
  have e3 : (X ++ (Y ++ Z)).drop (X.length + 2 + Y.length) = Z.drop 2 := by
    rw [show X.length + 2 + Y.length = X.length + (Y.length + 2) by omega, List.drop_append, List.drop_append, show X.drop (X.length + (Y.length + 2)) = [] from List.drop_eq_nil_of_le (by omega), show Y.drop (X.length + (Y.length + 2) - X.length) = [] from List.drop_eq_nil_of_le (by omega)]
    simp
  rw [e1, e2, e3]
/-- .. and in a new row. -/
theorem splice_grow (X Y Z N : List Value) (hN : N.length = 2) (hZ : 2 + Y.length ≤ Z.length) : splice (splice (X ++ Z) X.length N) (X.length + 2) Y = X ++ (N ++ (Y ++ Z.drop (2 + Y.length))) := by
  unfold splice
  have e0 : (X ++ Z).take X.length ++ (N ++ (X ++ Z).drop (X.length + N.length)) = (X ++ N) ++ Z.drop 2 := by
    rw [List.take_left, List.drop_append]
    simp [hN]
  rw [e0]
  have hl : (X ++ N).length = X.length + 2 := by simp [hN]
  rw [← hl, List.take_left, List.drop_append]
  simp [Nat.add_comm]

set_option maxHeartbeats 4000000 in
set_option maxRecDepth 100000 in
theorem insert_end (v : Value) (d : List At) (x : At) (vb : Nat) (w : World) (h : OwnAt 0 w v d) (hl : d.length ≤ 4096) (hv : w.heap[vb]? = some (.cells (atCells x).toArray 86)) :
    Calls Try.prog 86 #[v, .int .i64 (d.length : Int), .slice (some ⟨vb, 0, none⟩) 1 1] w fun e w' => ∃ v', e = .returned v' ∧ OwnAt 0 w' v' (d ++ [x]) ∧ w.grownBy w' v.ownBlock ∧ (v'.ownBlock = v.ownBlock ∨ v'.ownBlock = some w.heap.size) := by
  obtain ⟨i0, hi, hz0, hz1, hz2⟩ := info_parts infoAttr
  have H : Hid (OwnAt 0 w v d) := h
  have hnews : ∀ j u, (atCells x)[j]? = some u → w.cell? ((⟨vb, 0, none⟩ : Addr).add j) = some u := fun j u hj => by
    rw [Addr.add_lit, cell_of_row w vb _ _ _ _ hv]
    simpa using hj
  have HN : Hid (∀ j u, (atCells x)[j]? = some u → w.cell? ((⟨vb, 0, none⟩ : Addr).add j) = some u) := hnews
  clear hnews hv
  rcases h.2 with ⟨rfl, hn⟩ | ⟨g, cap, cur, rfl, hg, hc, hcap, hm, hsz, htk⟩
  · have e : d = [] := List.eq_nil_of_length_eq_zero hn
    subst e
    clear h hn
    go_enter Try.func86, Try.ntmps86
    go_wp2_with (at_builtin; refine wpList_append_own_at _ rfl _ _ 30 rfl 0 86 i0 (.agg #[.string ⟨#[]⟩, .string ⟨#[]⟩]) 2 32 Try.underlying30 hi hz0 hz1 hz2 rfl (by decide) _ _ _ rfl H.out ⟨vb, 0, none⟩ 1 1 (atCells x) rfl rfl HN.out (atCells_one x) (by unfold maxLen; simp) (by simp) (Nat.zero_le _) ?_; intro v3 w3 hown3 hgrow3 hnil3 hat3)
    go_ret
    exact ⟨_, rfl, OwnE.snoc rfl hown3, hgrow3, hat3⟩
  · have hcl : d.length ≤ cap := hcap
    clear h hc htk hm hsz hcap
    by_cases hcc : cap = d.length
    all_goals
      go_enter Try.func86, Try.ntmps86
      go_wp2_with (at_builtin; refine wpList_append_own_at _ rfl _ _ 30 rfl 0 86 i0 (.agg #[.string ⟨#[]⟩, .string ⟨#[]⟩]) 2 32 Try.underlying30 hi hz0 hz1 hz2 rfl (by decide) _ _ _ rfl H.out ⟨vb, 0, none⟩ 1 1 (atCells x) rfl rfl HN.out (atCells_one x) (by unfold maxLen; omega) (by omega) (Nat.zero_le _) ?_; intro v3 w3 hown3 hgrow3 hnil3 hat3)
      go_ret
      exact ⟨_, rfl, OwnE.snoc rfl hown3, hgrow3, hat3⟩

/-- What Insert leaves. -/
def InsP (d : List At) (i : Nat) (x : At) (v : Value) (w : World) (e : Ending) (w' : World) : Prop := ∃ v', e = .returned v' ∧ OwnAt 0 w' v' (d.take i ++ x :: d.drop i) ∧ w.grownBy w' v.ownBlock ∧ (v'.ownBlock = v.ownBlock ∨ ∃ k, v'.ownBlock = some k ∧ w.heap.size ≤ k)
theorem ins_row {d : List At} {i : Nat} {x : At} {X Y Z : List Value} (hX : X = flatE atCells (d.take i)) (hY : Y = flatE atCells (d.drop i)) (hi : i ≤ d.length) : (X ++ ((atCells x) ++ (Y ++ Z))).take ((d.length + 1) * 2) = flatE atCells (d.take i ++ x :: d.drop i) := by
  have e : flatE atCells (d.take i ++ x :: d.drop i) = X ++ ((atCells x) ++ Y) := by
    rw [flatE_append, hX, hY]; rfl
  rw [e, ← List.append_assoc, ← List.append_assoc, ← List.append_assoc]
  have hl : (X ++ (atCells x) ++ Y).length = (d.length + 1) * 2 := by
    rw [hX, hY]
    simp only [List.length_append, flatE_length atCells_len, List.length_take, List.length_drop, List.length_cons, List.length_nil, atCells_len]
    omega
  rw [← hl, List.take_left]

set_option maxHeartbeats 4000000 in
set_option maxRecDepth 100000 in
theorem insert_room (g cap : Nat) (d : List At) (i : Nat) (x : At) (vb : Nat) (w : World) (h : OwnAt 0 w (.slice (some ⟨g, 0, none⟩) d.length cap) d) (hl : d.length ≤ 4096) (hin : i < d.length) (hroom : d.length + 1 ≤ cap) (hv : w.heap[vb]? = some (.cells (atCells x).toArray 86)) (hne : vb ≠ g) :
    Calls Try.prog 86 #[.slice (some ⟨g, 0, none⟩) d.length cap, .int .i64 (i : Int), .slice (some ⟨vb, 0, none⟩) 1 1] w fun e w' => InsP d i x (.slice (some ⟨g, 0, none⟩) d.length cap) w e w' := by
  obtain ⟨hfl, hn | ⟨g', cap', cur, hv', _, hc, _, hm, hsz, htk⟩⟩ := h
  · cases hn.1
  cases hv'
  obtain ⟨X, hX⟩ : ∃ X, X = flatE atCells (d.take i) := ⟨_, rfl⟩
  obtain ⟨Y, hY⟩ : ∃ Y, Y = flatE atCells (d.drop i) := ⟨_, rfl⟩
  obtain ⟨Z, hZ⟩ : ∃ Z, Z = cur.toList.drop (d.length * 2) := ⟨_, rfl⟩
  have hXl : X.length = i * 2 := by rw [hX, flatE_length atCells_len, List.length_take, Nat.min_eq_left (by omega)]
  have hYl : Y.length = (d.length - i) * 2 := by rw [hY, flatE_length atCells_len, List.length_drop]
  have hcl : cur.toList.length = cap * 2 := by simpa using hsz
  have hZl : Z.length = (cap - d.length) * 2 := by rw [hZ, List.length_drop, hcl]; omega
  have hcur : cur.toList = X ++ (Y ++ Z) := by
    rw [← List.append_assoc, hX, hY, ← flatE_append, List.take_append_drop, ← htk, hZ, List.take_append_drop]
  have hrow : w.heap[g]? = some (.cells (X ++ (Y ++ Z)).toArray 86 (0, 0)) := by rw [← hcur, Array.toArray_toList]; exact hc
  have hsa : w.shape? vb = some (86, 2) := by simp [World.shape?, hv, atCells_len]
  have hsb : w.shape? g = some (86, cap * 2) := by simp [World.shape?, hc, hsz]
  have hov : ∀ lb cb, (callFunc 104 #[.slice (some ⟨vb, 0, none⟩) 1 1, .slice (some ⟨g, (i + 1) * 2, none⟩) lb cb]).run Try.prog w = .ok (.value (.bool false)) w := fun lb cb => by
    rw [run_callFunc_extern Try.func104 (by kernel_rfl) (by kernel_rfl) (by kernel_rfl) (e := Extern.SlicesOverlaps.overlaps #[30, 30] #[4]) (by kernel_rfl),
      Lib.run_overlaps_apart w 30 4 86 Try.underlying30 2 sizeOfAttr ⟨vb, 0, none⟩ ⟨g, (i + 1) * 2, none⟩ 1 1 lb cb hne 86 86 2 (cap * 2) hsa hsb (by omega) (frozen_of_row w vb 0 _ _ hv) (frozen_of_row w vb 2 _ _ hv)]
    rfl
  have h1Y : ∀ u ∈ Y, u.oneCell' = true := by rw [hY]; exact flat_one _
  have hcp1 : ∀ ty dc sc, (Builtin.copy_ #[30, 30] ty #[.slice (some ⟨g, (i + 1) * 2, none⟩) (d.length - i) dc, .slice (some ⟨g, i * 2, none⟩) (d.length + 1 - i) sc]).run Try.prog w.drew = .ok (goInt ((d.length - i : Nat) : Int)) (w.drew.setRow g (splice (X ++ (Y ++ Z)) (X.length + 2) Y).toArray) := fun ty dc sc => by
    have := run_copyM w.drew ty g ((i + 1) * 2) (d.length - i) dc ⟨g, i * 2, none⟩ (d.length + 1 - i) sc (X ++ (Y ++ Z)) 86 Y (d.length - i) hrow (by simp only [Nat.min_def]; split <;> omega) hYl (fun j u hj => by
      rw [Addr.add_lit, cell_of_row w.drew g _ _ _ _ hrow]
      have hj2 := (List.getElem?_eq_some_iff.1 hj).1
      show (X ++ (Y ++ Z)).toArray[i * 2 + j]? = _
      rw [List.getElem?_toArray, ← hXl, List.getElem?_append_right (by omega), show X.length + j - X.length = j by omega, List.getElem?_append_left (by omega)]
      exact hj) (by simp only [List.length_append, hXl, hYl, hZl]; omega) h1Y
    rw [show (i + 1) * 2 = X.length + 2 by omega] at this
    rw [show (i + 1) * 2 = X.length + 2 by omega]
    exact this
  obtain ⟨W1, hW1⟩ : ∃ W1, W1 = w.drew.setRow g (splice (X ++ (Y ++ Z)) (X.length + 2) Y).toArray := ⟨_, rfl⟩
  rw [← hW1] at hcp1
  have hrow1 : W1.heap[g]? = some (.cells (splice (X ++ (Y ++ Z)) (X.length + 2) Y).toArray 86 (0, 0)) := by rw [hW1]; exact setRow_heap w.drew g _ _ _ _ hrow
  have hvb1 : W1.heap[vb]? = some (.cells (atCells x).toArray 86) := by rw [hW1]; exact (setRow_other w.drew g vb _ hne).trans hv
  have hcp2 : ∀ ty dc, (Builtin.copy_ #[30, 30] ty #[.slice (some ⟨g, i * 2, none⟩) (d.length + 1 - i) dc, .slice (some ⟨vb, 0, none⟩) 1 1]).run Try.prog W1 = .ok (goInt 1) (W1.setRow g (splice (splice (X ++ (Y ++ Z)) (X.length + 2) Y) X.length (atCells x)).toArray) := fun ty dc => by
    have := run_copyM W1 ty g (i * 2) (d.length + 1 - i) dc ⟨vb, 0, none⟩ 1 1 (splice (X ++ (Y ++ Z)) (X.length + 2) Y) 86 (atCells x) 1 hrow1 (by simp only [Nat.min_def]; split <;> omega) rfl (fun j u hj => by
      rw [Addr.add_lit, cell_of_row W1 vb _ _ _ _ hvb1]
      simpa using hj) (by rw [length_splice _ _ _ (by simp only [List.length_append, hXl, hYl, hZl]; omega)]; simp only [List.length_append, List.length_cons, List.length_nil, atCells_len, hXl, hYl, hZl]; omega) (atCells_one x)
    rw [← hXl] at this ⊢
    exact this
  have HG : Hid (w.grownBy (W1.setRow g (splice (splice (X ++ (Y ++ Z)) (X.length + 2) Y) X.length (atCells x)).toArray) (some g)) := by
    rw [hW1]
    exact ⟨rfl, rfl, rfl, by simp [World.setRow], fun k hk hkg => (setRow_other _ g k _ (fun e => hkg (by rw [e]))).trans (setRow_other _ g k _ (fun e => hkg (by rw [e])))⟩
  have HO : Hid (OwnAt 0 (W1.setRow g (splice (splice (X ++ (Y ++ Z)) (X.length + 2) Y) X.length (atCells x)).toArray) (.slice (some ⟨g, 0, none⟩) (d.length + 1) cap) (d.take i ++ x :: d.drop i)) := by
    have hlen : (d.take i ++ x :: d.drop i).length = d.length + 1 := by simp; omega
    show World.ownsRow _ _ _ _ _ _ _
    rw [hlen]
    refine ⟨by rw [flatE_length atCells_len, hlen], .inr ⟨g, cap, (splice (splice (X ++ (Y ++ Z)) (X.length + 2) Y) X.length (atCells x)).toArray, rfl, Nat.zero_le _, setRow_heap W1 g _ _ _ _ hrow1, hroom, hm, ?_, ?_⟩⟩
    · rw [splice_room X Y Z _ rfl (by omega)]
      simp only [List.size_toArray, List.length_append, List.length_cons, List.length_nil, atCells_len, List.length_drop, hXl, hYl, hZl]
      omega
    · rw [splice_room X Y Z _ rfl (by omega)]
      exact ins_row hX hY (by omega)
  generalize hW2 : W1.setRow g (splice (splice (X ++ (Y ++ Z)) (X.length + 2) Y) X.length (atCells x)).toArray = W2 at hcp2 HG HO
  have n1 : ¬ ((i : Int) = (d.length : Int)) := by omega
  have n2 : ((i : Int) == (d.length : Int)) = false := by simp; omega
  have n3 : ¬ (cap = i + 1) := by omega
  have n4 : ¬ (cap = i) := by omega
  have n5 : ((i : Int) + 1).toNat = i + 1 := by omega
  have n6 : (i : Int) ≤ (d.length : Int) + 1 := by omega
  have n7 : i ≤ d.length := by omega
  have n8 : ¬ ((cap : Int) < (d.length : Int) + 1) := by omega
  have n9 : (d.length : Int) + 1 ≤ (cap : Int) := by omega
  have n10 : i + 1 ≤ d.length + 1 := by omega
  have mixed : Try.prog.follows Departure.mixedOrders = true := by kernel_rfl
  have n11 : (0 : Int) ≤ (i : Int) + 1 := by omega
  have n12 : IntKind.i64.wrap ((i : Int) + 1) = (i : Int) + 1 := by rw [IntKind.wrap_i64]; omega
  have n13 : (i : Int) + 1 ≤ (d.length : Int) + 1 := by omega
  clear hX hY hZ hXl hYl hZl hcur hrow hsa hsb h1Y hW1 hrow1 hvb1 hW2 hc hsz htk hcl hfl hv
  go_enter Try.func86, Try.ntmps86
  go_wp2_with (simp only [hov])
  go_region_law_o (refine step_copy_runI rfl _ _ 30 30 rfl _ _ (by simp [Act.eval, Act.put]) (by simp [Act.eval, Act.put]) (hcp1 _ _ _) ?_)
  go_wp2_with (at_builtin; refine wpList_copy_runI _ rfl _ _ 30 30 rfl _ _ rfl rfl (hcp2 _ _) ?_)
  go_ret
  exact ⟨_, rfl, HO.out, HG.out, .inl rfl⟩

set_option maxHeartbeats 4000000 in
set_option maxRecDepth 100000 in
theorem insert_grow (g cap : Nat) (d : List At) (i : Nat) (x : At) (vb : Nat) (w : World) (h : OwnAt 0 w (.slice (some ⟨g, 0, none⟩) d.length cap) d) (hl : d.length ≤ 4096) (hin : i < d.length) (hroom : cap < d.length + 1) (hv : w.heap[vb]? = some (.cells (atCells x).toArray 86)) :
    Calls Try.prog 86 #[.slice (some ⟨g, 0, none⟩) d.length cap, .int .i64 (i : Int), .slice (some ⟨vb, 0, none⟩) 1 1] w fun e w' => InsP d i x (.slice (some ⟨g, 0, none⟩) d.length cap) w e w' := by
  obtain ⟨i0, hi0, hz0, hz1, hz2⟩ := info_parts infoAttr
  obtain ⟨hfl, hn | ⟨g', cap', cur, hv', _, hc, hcap, hm, hsz, htk⟩⟩ := h
  · cases hn.1
  cases hv'
  obtain rfl : cap = d.length := by omega
  obtain ⟨X, hX⟩ : ∃ X, X = flatE atCells (d.take i) := ⟨_, rfl⟩
  obtain ⟨Y, hY⟩ : ∃ Y, Y = flatE atCells (d.drop i) := ⟨_, rfl⟩
  have hXl : X.length = i * 2 := by rw [hX, flatE_length atCells_len, List.length_take, Nat.min_eq_left (by omega)]
  have hYl : Y.length = (d.length - i) * 2 := by rw [hY, flatE_length atCells_len, List.length_drop]
  have hcl : cur.toList.length = d.length * 2 := by simpa using hsz
  have hcur : cur.toList = X ++ Y := by
    rw [hX, hY, ← flatE_append, List.take_append_drop, ← htk, List.take_of_length_le (by omega)]
  have hrow : w.heap[g]? = some (.cells (X ++ Y).toArray 86 (0, 0)) := by rw [← hcur, Array.toArray_toList]; exact hc
  have hgw : g < w.heap.size := (Array.getElem?_eq_some_iff.1 hrow).1
  have hvw : vb < w.heap.size := (Array.getElem?_eq_some_iff.1 hv).1
  have hold : (Builtin.firstCells i0.size i (.slice (some ⟨g, 0, none⟩) i d.length)).run Try.prog w.drew = .ok X.toArray w.drew := by
    rw [hz1]
    exact run_firstCells_some w.drew 2 i ⟨g, 0, none⟩ i d.length X hXl (fun j u hj => by
      rw [Addr.add_lit, cell_of_row w.drew g _ _ _ _ hrow]
      have hj2 := (List.getElem?_eq_some_iff.1 hj).1
      rw [List.getElem?_toArray, Nat.zero_add, List.getElem?_append_left hj2]
      exact hj)
  obtain ⟨G, hG⟩ : ∃ G, G = grownCap w (d.length + 1) d.length 86 := ⟨_, rfl⟩
  obtain ⟨Z, hZ⟩ : ∃ Z : List Value, Z = (Builtin.zeroCells (Value.agg #[.string ⟨#[]⟩, .string ⟨#[]⟩]).cells (d.length + 1 - i)).toList ++ (Builtin.zeroCells (Value.agg #[.string ⟨#[]⟩, .string ⟨#[]⟩]).cells (G - (d.length + 1))).toList := ⟨_, rfl⟩
  have hGn : d.length + 1 ≤ G := by rw [hG]; exact grownCap_ge w _ _ _
  have hZl : Z.length = (G - i) * 2 := by
    rw [hZ]
    simp only [List.length_append, Array.length_toList, size_zeroCells]
    simp only [Value.cells]
    simp
    omega
  have hG63 : G ≤ maxLen := by
    have := grownCap_le_maxLen w (d.length + 1) d.length 86 (by unfold maxLen; omega)
    rw [← hG] at this
    exact this
  have hrz : ∀ ty, (Builtin.append_ #[30, 3] ty #[.slice (some ⟨g, 0, none⟩) i d.length, .int .i64 ((d.length : Int) + 1 - (i : Int))]).run Try.prog w =
      .ok (.slice (some ⟨w.heap.size, 0, none⟩) (d.length + 1) G) (w.drew.alloc (.cells (X ++ Z).toArray 86)) := fun ty => by
    have h := Lib.run_append_grow_zeros w 30 3 ty 86 i0 _ .i64 .i64 Try.underlying30 Try.underlying3 hi0 hz0 (some ⟨g, 0, none⟩) i d.length X hold (d.length + 1 - i) (by omega) (by omega) (by omega) (by omega) (by rw [hz2]; omega) (by rw [hz2, show i + (d.length + 1 - i) = d.length + 1 by omega]; exact growslice_fits (by omega) (by omega))
    rw [show i + (d.length + 1 - i) = d.length + 1 by omega, ← hG] at h
    rw [show (d.length : Int) + 1 - (i : Int) = ((d.length + 1 - i : Nat) : Int) by omega, h]
    have e : X.toArray ++ Builtin.zeroCells (Value.agg #[.string ⟨#[]⟩, .string ⟨#[]⟩]).cells (d.length + 1 - i) ++ Builtin.zeroCells (Value.agg #[.string ⟨#[]⟩, .string ⟨#[]⟩]).cells (G - (d.length + 1)) = (X ++ Z).toArray := by
      rw [hZ]; simp
    rw [e]
  obtain ⟨W1, hW1⟩ : ∃ W1, W1 = w.drew.alloc (.cells (X ++ Z).toArray 86) := ⟨_, rfl⟩
  rw [← hW1] at hrz
  have hB1 : Below w.heap.size w W1 := by rw [hW1]; exact ((Below.refl _ _).drew).alloc (Nat.le_refl _) _
  have hrowN : W1.heap[w.heap.size]? = some (.cells (X ++ Z).toArray 86 (0, 0)) := by rw [hW1]; exact heap_alloc_new w.drew _
  have hcpA : ∀ ty dc, (Builtin.copy_ #[30, 30] ty #[.slice (some ⟨w.heap.size, i * 2, none⟩) (d.length + 1 - i) dc, .slice (some ⟨vb, 0, none⟩) 1 1]).run Try.prog W1 = .ok (goInt 1) (W1.setRow w.heap.size (splice (X ++ Z) X.length (atCells x)).toArray) := fun ty dc => by
    have hvb1 : W1.heap[vb]? = some (.cells (atCells x).toArray 86) := (hB1.block vb hvw).trans hv
    have := run_copyM W1 ty w.heap.size (i * 2) (d.length + 1 - i) dc ⟨vb, 0, none⟩ 1 1 (X ++ Z) 86 (atCells x) 1 hrowN (by simp only [Nat.min_def]; split <;> omega) rfl (fun j u hj => by
      rw [Addr.add_lit, cell_of_row W1 vb _ _ _ _ hvb1]
      simpa using hj) (by simp only [List.length_append, List.length_cons, List.length_nil, atCells_len, hXl, hZl]; omega) (atCells_one x)
    rw [← hXl] at this ⊢
    exact this
  obtain ⟨W2, hW2⟩ : ∃ W2, W2 = W1.setRow w.heap.size (splice (X ++ Z) X.length (atCells x)).toArray := ⟨_, rfl⟩
  rw [← hW2] at hcpA
  have hrow2 : W2.heap[w.heap.size]? = some (.cells (splice (X ++ Z) X.length (atCells x)).toArray 86 (0, 0)) := by rw [hW2]; exact setRow_heap W1 _ _ _ _ _ hrowN
  have hB2 : Below w.heap.size w W2 := by rw [hW2]; exact below_setRow hB1 (Nat.le_refl _) _
  have hgr2 : W2.heap[g]? = some (.cells (X ++ Y).toArray 86 (0, 0)) := (hB2.block g hgw).trans hrow
  have h1Y : ∀ u ∈ Y, u.oneCell' = true := by rw [hY]; exact flat_one _
  have hcpB : ∀ ty dc sc, (Builtin.copy_ #[30, 30] ty #[.slice (some ⟨w.heap.size, (i + 1) * 2, none⟩) (d.length - i) dc, .slice (some ⟨g, i * 2, none⟩) (d.length - i) sc]).run Try.prog W2.drew = .ok (goInt ((d.length - i : Nat) : Int)) (W2.drew.setRow w.heap.size (splice (splice (X ++ Z) X.length (atCells x)) (X.length + 2) Y).toArray) := fun ty dc sc => by
    have := run_copyM W2.drew ty w.heap.size ((i + 1) * 2) (d.length - i) dc ⟨g, i * 2, none⟩ (d.length - i) sc (splice (X ++ Z) X.length (atCells x)) 86 Y (d.length - i) hrow2 (by simp only [Nat.min_def]; split <;> omega) hYl (fun j u hj => by
      rw [Addr.add_lit, cell_of_row W2.drew g _ _ _ _ hgr2]
      show (X ++ Y).toArray[i * 2 + j]? = _
      rw [List.getElem?_toArray, ← hXl, List.getElem?_append_right (by omega), show X.length + j - X.length = j by omega]
      exact hj) (by rw [length_splice _ _ _ (by simp only [List.length_append, List.length_cons, List.length_nil, atCells_len, hXl, hZl]; omega)]; simp only [List.length_append, hXl, hYl, hZl]; omega) h1Y
    rw [show (i + 1) * 2 = X.length + 2 by omega] at this
    rw [show (i + 1) * 2 = X.length + 2 by omega]
    exact this
  obtain ⟨W3, hW3⟩ : ∃ W3, W3 = W2.drew.setRow w.heap.size (splice (splice (X ++ Z) X.length (atCells x)) (X.length + 2) Y).toArray := ⟨_, rfl⟩
  rw [← hW3] at hcpB
  have hB3 : Below w.heap.size w W3 := by rw [hW3]; exact below_setRow hB2.drew (Nat.le_refl _) _
  have HG : Hid (w.grownBy W3 (some g)) := grownBy.ofBelow hB3 _
  have HO : Hid (OwnAt 0 W3 (.slice (some ⟨w.heap.size, 0, none⟩) (d.length + 1) G) (d.take i ++ x :: d.drop i)) := by
    have hlen : (d.take i ++ x :: d.drop i).length = d.length + 1 := by simp; omega
    show World.ownsRow _ _ _ _ _ _ _
    rw [hlen]
    refine ⟨by rw [flatE_length atCells_len, hlen], .inr ⟨w.heap.size, G, (splice (splice (X ++ Z) X.length (atCells x)) (X.length + 2) Y).toArray, rfl, Nat.zero_le _, ?_, hGn, hG63, ?_, ?_⟩⟩
    · rw [hW3]; exact setRow_heap W2.drew _ _ _ _ _ hrow2
    · rw [splice_grow X Y Z _ rfl (by omega)]
      simp only [List.size_toArray, List.length_append, List.length_cons, List.length_nil, atCells_len, List.length_drop, hXl, hYl, hZl]
      omega
    · rw [splice_grow X Y Z _ rfl (by omega)]
      exact ins_row hX hY (by omega)
  have n1 : ¬ ((i : Int) = (d.length : Int)) := by omega
  have n2 : ((i : Int) == (d.length : Int)) = false := by simp; omega
  have n3 : ¬ (G = i + 1) := by omega
  have n4 : ¬ (G = i) := by omega
  have n4b : ¬ (d.length = i) := by omega
  have n5 : ((i : Int) + 1).toNat = i + 1 := by omega
  have n6 : (i : Int) ≤ (d.length : Int) + 1 := by omega
  have n7 : i ≤ d.length := by omega
  have n7b : i ≤ d.length + 1 := by omega
  have n10 : i + 1 ≤ d.length + 1 := by omega
  have mixed : Try.prog.follows Departure.mixedOrders = true := by kernel_rfl
  have n11 : (0 : Int) ≤ (i : Int) + 1 := by omega
  have n12 : IntKind.i64.wrap ((i : Int) + 1) = (i : Int) + 1 := by rw [IntKind.wrap_i64]; omega
  have n13 : (i : Int) + 1 ≤ (d.length : Int) + 1 := by omega
  have n14 : (d.length : Int) < (d.length : Int) + 1 := by omega
  clear hX hY hZ hXl hYl hZl hcur hrow h1Y hW1 hW2 hW3 hc hsz htk hcl hfl hv hG hgr2 hrow2 hrowN hold hB1 hB2 hB3 hroom
  go_enter Try.func86, Try.ntmps86
  go_wp2_with (at_builtin; first | refine Lib.wpList_append_run _ rfl _ _ _ _ rfl _ _ rfl rfl _ _ (hrz _) ?_ | refine wpList_copy_runI _ rfl _ _ 30 30 rfl _ _ rfl rfl (hcpA _ _) ?_)
  go_region_law_o (refine step_copy_runI rfl _ _ 30 30 rfl _ _ (by simp [Act.eval, Act.put]) (by simp [Act.eval, Act.put]) (hcpB _ _ _) ?_)
  go_wp2
  go_ret
  exact ⟨_, rfl, HO.out, HG.out, .inr ⟨w.heap.size, rfl, Nat.le_refl _⟩⟩

/-- slices.Insert, of one attribute that lies in a block of its own. -/
theorem insert_any (v : Value) (d : List At) (i : Nat) (x : At) (vb : Nat) (w : World) (h : OwnAt 0 w v d) (hl : d.length ≤ 4096) (hin : i ≤ d.length) (hv : w.heap[vb]? = some (.cells (atCells x).toArray 86)) (hne : v.ownBlock ≠ some vb) :
    Calls Try.prog 86 #[v, .int .i64 (i : Int), .slice (some ⟨vb, 0, none⟩) 1 1] w fun e w' => InsP d i x v w e w' := by
  by_cases hi : i = d.length
  · subst hi
    refine (insert_end v d x vb w h hl hv).mono ?_
    rintro e w' ⟨v', rfl, h1, h2, h3⟩
    refine ⟨v', rfl, ?_, h2, h3.imp id fun e => ⟨_, e, Nat.le_refl _⟩⟩
    rw [List.take_length, List.drop_length]
    exact h1
  · rcases h.2 with ⟨rfl, hn⟩ | ⟨g, cap, cur, rfl, hg, hc, hcap, hm, hsz, htk⟩
    · omega
    · rcases Nat.lt_or_ge cap (d.length + 1) with h' | h'
      · exact insert_grow g cap d i x vb w h hl (by omega) h' hv
      · exact insert_room g cap d i x vb w h hl (by omega) h' hv (fun e => hne (by rw [e]; rfl))

end Go.Proofs.Ytccpljllgpabnaa

namespace Go.Proofs.Ytccpljllgpabnaa
open Go.RowKit
set_option linter.unusedVariables false
set_option linter.unusedSimpArgs false

theorem splice_len {cur : List Value} {o : Nat} {vs : List Value} (h : o + vs.length ≤ cur.length) : (splice cur o vs).length = cur.length := by
  unfold splice
  simp
  omega
theorem heap_setCells_same (g : Nat) (t : TypeId) : ∀ (vs : List Value) (o : Nat) (cur : Array Value) (w : World), w.heap[g]? = some (.cells cur t (0, 0)) → o + vs.length ≤ cur.size → (w.setCells g o vs).heap[g]? = some (.cells (splice cur.toList o vs).toArray t (0, 0))
  | [], o, cur, w, h, hl => by
    show w.heap[g]? = _
    rw [h]
    unfold splice
    simp
  | v :: r, o, cur, w, h, hl => by
    have h1 := heap_setCell_same w g o cur t v h
    have h2 := heap_setCells_same g t r (o + 1) _ _ h1 (by simp at hl ⊢; omega)
    show ((w.setCell ⟨g, o, none⟩ v).setCells g (o + 1) r).heap[g]? = _
    rw [h2]
    have e : splice (cur.setIfInBounds o v).toList (o + 1) r = splice cur.toList o (v :: r) := by
      unfold splice
      simp at hl
      rw [Array.toList_setIfInBounds]
      rw [show (cur.toList.set o v).take (o + 1) = cur.toList.take o ++ [v] from by rw [List.take_succ_eq_append_getElem (by simp; omega), List.take_set_of_le (Nat.le_refl _)]; simp, List.drop_set_of_lt (by omega)]
      simp [Nat.add_assoc, Nat.add_comm 1 r.length]
    rw [e]
theorem grownBy_setCells (g : Nat) : ∀ (vs : List Value) (o : Nat) (w : World), w.grownBy (w.setCells g o vs) (some g)
  | [], o, w => ⟨rfl, rfl, rfl, Nat.le_refl _, fun _ _ _ => rfl⟩
  | v :: r, o, w => (grownBy_setCell w g o v).trans (grownBy_setCells g r (o + 1) _)
/-- clear, of one row. -/
theorem run_clearM (w : World) (ty : TypeId) (g o c : Nat) (hc : ∀ j, j < 2 → (w.cell? ⟨g, o + j, none⟩).isSome = true) (hf : ∀ j, j < 2 → w.frozen? ⟨g, o + j, none⟩ = false) :
    (Builtin.clear_ #[30] ty #[.slice (some ⟨g, o, none⟩) 1 c]).run Try.prog w = .ok (.tuple #[]) (w.setCells g o (#[.string ⟨#[]⟩, .string ⟨#[]⟩] : Array Value).toList) := by
  have hv : (zeroValue 86).run Try.prog w = .ok (.agg #[.string ⟨#[]⟩, .string ⟨#[]⟩]) w := by kernel_rfl
  have hst := run_storeCells_cells (P := Try.prog) g o (#[.string ⟨#[]⟩, .string ⟨#[]⟩] : Array Value).toList 0 w (by simpa using hc) (by simpa using hf) (by intro v hv'; simp at hv'; rcases hv' with rfl | rfl <;> rfl)
  simp only [Nat.add_zero] at hst
  have hzc : (Builtin.zeroCells (Value.agg #[.string ⟨#[]⟩, .string ⟨#[]⟩]).cells 1).toList = (#[.string ⟨#[]⟩, .string ⟨#[]⟩] : Array Value).toList := by kernel_rfl
  simp only [Builtin.clear_, List.getElem?_toArray, List.getElem?_cons_zero, Sem.run_bind, run_underlying Try.underlying30, Result.andThen_ok, hv, hzc, hst, Sem.run_pure]

set_option maxRecDepth 1000000 in
set_option maxHeartbeats 4000000 in
theorem delete_any (v : Value) (d : List At) (i m : Nat) (w : World) (h : OwnAt 0 w v d) (hl : d.length ≤ 4096) (hm : d.length = i + m + 1) :
    Calls Try.prog 87 #[v, .int .i64 (i : Int), .int .i64 ((i + 1 : Nat) : Int)] w fun e w' => ∃ v', e = .returned v' ∧ OwnAt 0 w' v' (d.take i ++ d.drop (i + 1)) ∧ w.grownBy w' v.ownBlock ∧ v'.ownBlock = v.ownBlock := by
  obtain ⟨i0, hi0, hz0, hz1, hz2⟩ := info_parts infoAttr
  obtain ⟨hxl, h2⟩ := h
  rcases h2 with ⟨rfl, hn⟩ | ⟨g, cap, cur, rfl, hg, hc, hcap, hmx, hsz, htk⟩
  · omega
  rw [hm]
  obtain ⟨Y, eY⟩ : ∃ Y, Y = flatE atCells (d.drop (i + 1)) := ⟨_, rfl⟩
  have hYl : Y.length = m * 2 := by rw [eY, flatE_length atCells_len, List.length_drop]; congr 1; omega
  have hYe : Y = (cur.toList.take ((i + m + 1) * 2)).drop ((i + 1) * 2) := by rw [eY, flatE_drop atCells_len, ← htk, hm]
  have hcl : cur.toList.length = cap * 2 := by simpa using hsz
  have hcell : ∀ j, j < cap * 2 → ∀ W : World, W.heap = w.heap → W.cell? ⟨g, j, none⟩ = cur.toList[j]? := fun j hj W e => by
    rw [cell_of_row W g j _ _ _ (by rw [e]; exact hc)]; simp
  have hge : ∀ t u, Y[t]? = some u → cur.toList[(i + 1) * 2 + t]? = some u := fun t u hu => by
    have ht : t < m * 2 := by have := (List.getElem?_eq_some_iff.1 hu).1; omega
    rw [hYe, List.getElem?_drop, List.getElem?_take_of_lt (by rw [Nat.add_mul, Nat.add_mul, Nat.add_mul]; omega)] at hu
    exact hu
  obtain ⟨A, hA, hsrc⟩ : ∃ A : Addr, (if cap = i + 1 then some (⟨g, 0, none⟩ : Addr) else some ⟨g, (i + 1) * 2, none⟩) = some A ∧ Hid (∀ t u, Y[t]? = some u → w.drew.cell? (A.add t) = some u) := by
    by_cases h9 : cap = i + 1
    · refine ⟨⟨g, 0, none⟩, by simp [h9], fun t u hu => ?_⟩
      have : t < m * 2 := by have := (List.getElem?_eq_some_iff.1 hu).1; omega
      have : m = 0 := by omega
      subst this
      omega
    · refine ⟨⟨g, (i + 1) * 2, none⟩, by simp [h9], fun t u hu => ?_⟩
      have ht : t < m * 2 := by have := (List.getElem?_eq_some_iff.1 hu).1; omega
      rw [Addr.add_lit, hcell _ (by rw [Nat.add_mul]; have : (i + m + 1) * 2 ≤ cap * 2 := Nat.mul_le_mul_right _ (by omega); rw [Nat.add_mul, Nat.add_mul] at this; omega) w.drew rfl]
      exact hge t u hu
  have s1 : Hid (Y.length = m * 2) := hYl
  have s2 : Hid (∀ u ∈ Y, u.oneCell' = true) := by (rw [eY]; exact flat_one _)
  have hcap2 : (i + m + 1) * 2 ≤ cap * 2 := Nat.mul_le_mul_right _ (by omega)
  have s3 : Hid (∀ t, t < Y.length → (w.drew.cell? ⟨g, 0 + i * 2 + t, none⟩).isSome = true ∧ w.drew.frozen? ⟨g, 0 + i * 2 + t, none⟩ = false) := fun t ht => by
    rw [hYl] at ht
    rw [Nat.add_mul, Nat.add_mul] at hcap2
    refine ⟨?_, frozen_of_row w.drew g _ _ _ hc⟩
    rw [hcell _ (by omega) w.drew rfl, List.getElem?_eq_getElem (by omega)]
    rfl
  obtain ⟨W1, hW1⟩ : ∃ W1, W1 = w.drew.setCells g (0 + i * 2) Y := ⟨_, rfl⟩
  have hr1 : W1.heap[g]? = some (.cells (splice cur.toList (0 + i * 2) Y).toArray 86 (0, 0)) := by
    rw [hW1]
    exact heap_setCells_same g _ Y _ cur w.drew hc (by rw [Nat.add_mul, Nat.add_mul] at hcap2; omega)
  have hl1 : (splice cur.toList (0 + i * 2) Y).length = cap * 2 := by rw [splice_len (by rw [Nat.add_mul, Nat.add_mul] at hcap2; omega)]; exact hcl
  have hcl1 : ∀ ty, (Builtin.clear_ #[30] ty #[.slice (some ⟨g, (i + m) * 2, none⟩) 1 (cap - (i + m))]).run Try.prog W1 = .ok (.tuple #[]) (W1.setCells g ((i + m) * 2) (#[.string ⟨#[]⟩, .string ⟨#[]⟩] : Array Value).toList) := fun ty => run_clearM W1 ty g _ _ (fun j hj => by
      rw [cell_of_row W1 g _ _ _ _ hr1]
      rw [Nat.add_mul] at hcap2
      simp only [List.getElem?_toArray]
      rw [List.getElem?_eq_getElem (by omega)]
      rfl) (fun j hj => frozen_of_row W1 g _ _ _ hr1)
  have HR : Hid (W1.heap[g]? = some (.cells (splice cur.toList (0 + i * 2) Y).toArray 86 (0, 0))) := hr1
  have HW : Hid (W1 = w.drew.setCells g (0 + i * 2) Y) := hW1
  have HFin : Hid (OwnAt 0 (W1.setCells g ((i + m) * 2) (#[.string ⟨#[]⟩, .string ⟨#[]⟩] : Array Value).toList) (.slice (some ⟨g, 0, none⟩) (i + m) cap) (d.take i ++ d.drop (i + 1)) ∧ w.grownBy (W1.setCells g ((i + m) * 2) (#[.string ⟨#[]⟩, .string ⟨#[]⟩] : Array Value).toList) (some g)) := by
    have hdl : (d.take i ++ d.drop (i + 1)).length = i + m := by simp; omega
    refine ⟨?_, ?_⟩
    · show World.ownsRow _ _ _ _ _ _ _
      rw [hdl]
      refine ⟨by rw [flatE_length atCells_len, hdl], .inr ⟨g, cap, _, rfl, Nat.zero_le _, heap_setCells_same g _ _ _ _ W1 hr1 (by rw [List.size_toArray, hl1]; show (i + m) * 2 + 2 ≤ cap * 2; rw [Nat.add_mul] at hcap2; omega), by omega, hmx, ?_, ?_⟩⟩
      · rw [List.size_toArray, splice_len (by rw [List.toList_toArray, hl1]; rw [Nat.add_mul] at hcap2; simp; omega)]; rw [List.toList_toArray]; exact hl1
      · rw [List.toList_toArray, List.toList_toArray]
        have e1 : (splice (splice cur.toList (0 + i * 2) Y) ((i + m) * 2) (#[.string ⟨#[]⟩, .string ⟨#[]⟩] : Array Value).toList).take ((i + m) * 2) = (splice cur.toList (0 + i * 2) Y).take ((i + m) * 2) := by
          show (List.take _ _ ++ _).take _ = _
          rw [List.take_append_of_le_length (by rw [List.length_take, hl1, Nat.min_eq_left (by rw [Nat.add_mul] at hcap2; omega)]; exact Nat.le_refl _), List.take_take, Nat.min_self]
        rw [e1]
        have hX : (cur.toList.take (0 + i * 2)).length = i * 2 := by rw [List.length_take, hcl, Nat.zero_add, Nat.min_eq_left]; rw [Nat.add_mul, Nat.add_mul] at hcap2; omega
        have e2 : (splice cur.toList (0 + i * 2) Y).take ((i + m) * 2) = cur.toList.take (0 + i * 2) ++ Y := by
          unfold splice
          rw [← List.append_assoc, List.take_append_of_le_length (by rw [List.length_append, hX, hYl, Nat.add_mul]; exact Nat.le_refl _), List.take_of_length_le (by rw [List.length_append, hX, hYl, Nat.add_mul]; exact Nat.le_refl _)]
        rw [e2, flatE_append, eY]
        congr 1
        rw [flatE_take atCells_len, ← htk, List.take_take, Nat.zero_add, Nat.min_eq_left]
        exact Nat.mul_le_mul_right _ (by omega)
    · rw [hW1]
      have h0 : w.grownBy w.drew (some g) := ⟨rfl, rfl, rfl, Nat.le_refl _, fun _ _ _ => rfl⟩
      exact (h0.trans (grownBy_setCells g Y _ _)).trans (grownBy_setCells g _ _ _)
  have hn1 : ¬ cap = i + m := by omega
  have hic : i ≤ cap := by omega
  have hjc : i + 1 ≤ cap := by omega
  have hkc : i + m ≤ cap := by omega
  have z1 : (0 : Int) ≤ (i : Int) + 1 := by omega
  have z2 : (i : Int) ≤ (i : Int) + (m : Int) := by omega
  have z3 : (0 : Int) ≤ (i : Int) + (m : Int) := by omega
  have z4 : (0 : Int) ≤ (i : Int) + (m : Int) + 1 := by omega
  have z5 : (i : Int) + (m : Int) + 1 ≤ (cap : Int) := by omega
  have z6 : (i : Int) + (m : Int) ≤ (i : Int) + (m : Int) + 1 := by omega
  clear hr1 hW1 hcell hge hxl hc hsz htk hYl hYe eY hcl hcap2 hl1 hm
  go_enter Try.func87, Try.ntmps87
  go_wp2_with fail
  have mixed : Try.prog.follows .mixedOrders = true := by kernel_rfl
  go_region_law_o (refine step_append_room rfl (.tmp 22) (.tmp 25) 30 rfl 86 i0 2 Try.underlying30 hi0 hz1 g 0 i cap (by simp [Act.eval, Act.put]) A m (cap - (i + 1)) Y (by simp [Act.eval, Act.put]) s1.out hsrc.out s2.out (by omega) s3.out ?_; rw [← HW.out])
  go_wp2
  go_ret
  exact ⟨_, rfl, HFin.out.1, HFin.out.2, rfl⟩

end Go.Proofs.Ytccpljllgpabnaa

namespace Go.Proofs.Ytccpljllgpabnaa
open Go.RowKit
set_option linter.unusedVariables false
set_option linter.unusedSimpArgs false

section
variable {R : List At} {nm vl : ByteArray} {i : Nat}
theorem PlcA.ltk (h : PlcA R nm i) : ∀ a ∈ R.take i, ltT a.1 nm = true := fun a ha => by
  obtain ⟨j, hj, rfl⟩ := List.getElem_of_mem ha
  rw [List.length_take] at hj
  rw [List.getElem_take]
  exact h.2.1 j (by omega) (by omega)
theorem PlcA.gdr (h : PlcA R nm i) : ∀ a ∈ R.drop i, ltT a.1 nm = false := fun a ha => by
  obtain ⟨j, hj, rfl⟩ := List.getElem_of_mem ha
  rw [List.length_drop] at hj
  rw [List.getElem_drop]
  exact h.2.2 (i + j) (by omega) (by omega)
theorem PlcA.has (h : PlcA R nm i) (hs : R.Pairwise fun a b => ltT a.1 b.1 = true) : hasA nm R = decide (∃ h : i < R.length, R[i].1 = nm) := by
  rw [Bool.eq_iff_iff, hasA, List.any_eq_true, decide_eq_true_eq]
  constructor
  · rintro ⟨a, ha, e⟩
    obtain ⟨j, hj, rfl⟩ := List.getElem_of_mem ha
    have e : R[j].1 = nm := by simpa using e
    have hji : i ≤ j := Nat.le_of_not_lt fun hl => by
      have h1 := h.2.1 j hj hl
      rw [e, ltT_irr] at h1
      cases h1
    rcases Nat.lt_or_eq_of_le hji with hl | rfl
    · have h1 := h.2.2 i (by omega) (Nat.le_refl _)
      have h2 : ltT (R[i]'(by omega)).1 R[j].1 = true := List.pairwise_iff_getElem.1 hs i j (by omega) hj hl
      rw [e, h1] at h2
      cases h2
    · exact ⟨hj, e⟩
  · rintro ⟨h1, e⟩
    exact ⟨R[i], List.getElem_mem h1, by simpa using e⟩
theorem PlcA.parts (h : PlcA R nm i) (hs : R.Pairwise fun a b => ltT a.1 b.1 = true) (hi : i < R.length) (e : R[i].1 = nm) : (R.filter fun a => ltT a.1 nm) = R.take i ∧ (R.filter fun a => ltT nm a.1) = R.drop (i + 1) ∧ (R.filter fun a => decide (a.1 ≠ nm)) = R.take i ++ R.drop (i + 1) := by
  have hR : R = R.take i ++ R[i] :: R.drop (i + 1) := by rw [← List.drop_eq_getElem_cons hi, List.take_append_drop]
  have hgt : ∀ a ∈ R.drop (i + 1), ltT nm a.1 = true := fun a ha => by
    obtain ⟨j, hj, rfl⟩ := List.getElem_of_mem ha
    rw [List.length_drop] at hj
    rw [List.getElem_drop, ← e]
    exact List.pairwise_iff_getElem.1 hs i (i + 1 + j) hi (by omega) (by omega)
  have hlt := h.ltk
  have ha1 : (R.take i).filter (fun a : At => ltT a.1 nm) = R.take i := List.filter_eq_self.2 hlt
  have ha2 : (R.drop (i + 1)).filter (fun a : At => ltT a.1 nm) = [] := List.filter_eq_nil_iff.2 fun a ha => by rw [ltT_asym (hgt a ha)]; simp
  have hb1 : (R.take i).filter (fun a : At => ltT nm a.1) = [] := List.filter_eq_nil_iff.2 fun a ha => by rw [ltT_asym (hlt a ha)]; simp
  have hb2 : (R.drop (i + 1)).filter (fun a : At => ltT nm a.1) = R.drop (i + 1) := List.filter_eq_self.2 hgt
  have hc1 : (R.take i).filter (fun a : At => decide (a.1 ≠ nm)) = R.take i := List.filter_eq_self.2 fun a ha => decide_eq_true fun e2 => by have h8 := hlt a ha; rw [e2, ltT_irr] at h8; cases h8
  have hc2 : (R.drop (i + 1)).filter (fun a : At => decide (a.1 ≠ nm)) = R.drop (i + 1) := List.filter_eq_self.2 fun a ha => decide_eq_true fun e2 => by have h8 := hgt a ha; rw [e2, ltT_irr] at h8; cases h8
  refine ⟨?_, ?_, ?_⟩
  · have h9 := congrArg (List.filter fun a : At => ltT a.1 nm) hR
    rw [List.filter_append, List.filter_cons_of_neg (by simp [e, ltT_irr]), ha1, ha2, List.append_nil] at h9
    exact h9
  · have h9 := congrArg (List.filter fun a : At => ltT nm a.1) hR
    rw [List.filter_append, List.filter_cons_of_neg (by simp [e, ltT_irr]), hb1, hb2, List.nil_append] at h9
    exact h9
  · have h9 := congrArg (List.filter fun a : At => decide (a.1 ≠ nm)) hR
    rw [List.filter_append, List.filter_cons_of_neg (by simp [e]), hc1, hc2] at h9
    exact h9
theorem PlcA.parts0 (h : PlcA R nm i) (hs : R.Pairwise fun a b => ltT a.1 b.1 = true) (hn : ¬ ∃ h : i < R.length, R[i].1 = nm) : (R.filter fun a => ltT a.1 nm) = R.take i ∧ (R.filter fun a => ltT nm a.1) = R.drop i := by
  have hR : R = R.take i ++ R.drop i := (List.take_append_drop i R).symm
  have hgt : ∀ a ∈ R.drop i, ltT nm a.1 = true := fun a ha => by
    obtain ⟨j, hj, rfl⟩ := List.getElem_of_mem ha
    rw [List.length_drop] at hj
    rw [List.getElem_drop]
    have h0 : ltT nm (R[i]'(by omega)).1 = true := by
      rcases ltT_or (a := (R[i]'(by omega)).1) (b := nm) (fun e => hn ⟨by omega, e⟩) with h1 | h1
      · rw [h.2.2 i (by omega) (Nat.le_refl _)] at h1; cases h1
      · exact h1
    by_cases hj0 : j = 0
    · subst hj0; exact h0
    · exact ltT_trans h0 (List.pairwise_iff_getElem.1 hs i (i + j) (by omega) (by omega) (by omega))
  have hlt := h.ltk
  have ha1 : (R.take i).filter (fun a : At => ltT a.1 nm) = R.take i := List.filter_eq_self.2 hlt
  have ha2 : (R.drop i).filter (fun a : At => ltT a.1 nm) = [] := List.filter_eq_nil_iff.2 fun a ha => by rw [ltT_asym (hgt a ha)]; simp
  have hb1 : (R.take i).filter (fun a : At => ltT nm a.1) = [] := List.filter_eq_nil_iff.2 fun a ha => by rw [ltT_asym (hlt a ha)]; simp
  have hb2 : (R.drop i).filter (fun a : At => ltT nm a.1) = R.drop i := List.filter_eq_self.2 hgt
  refine ⟨?_, ?_⟩
  · have h9 := congrArg (List.filter fun a : At => ltT a.1 nm) hR
    rw [List.filter_append, ha1, ha2, List.append_nil] at h9
    exact h9
  · have h9 := congrArg (List.filter fun a : At => ltT nm a.1) hR
    rw [List.filter_append, hb1, hb2, List.nil_append] at h9
    exact h9
theorem setA_set (h : PlcA R nm i) (hs : R.Pairwise fun a b => ltT a.1 b.1 = true) (hi : i < R.length) (e : R[i].1 = nm) : setA nm vl R = R.set i (nm, vl) := by
  obtain ⟨h1, h2, _⟩ := h.parts hs hi e
  unfold setA
  rw [h1, h2, List.set_eq_take_append_cons_drop, if_pos hi]
theorem setA_ins (h : PlcA R nm i) (hs : R.Pairwise fun a b => ltT a.1 b.1 = true) (hn : ¬ ∃ h : i < R.length, R[i].1 = nm) : setA nm vl R = R.take i ++ (nm, vl) :: R.drop i := by
  obtain ⟨h1, h2⟩ := h.parts0 hs hn
  unfold setA
  rw [h1, h2]
theorem delA_del (h : PlcA R nm i) (hs : R.Pairwise fun a b => ltT a.1 b.1 = true) (hi : i < R.length) (e : R[i].1 = nm) : delA nm R = R.take i ++ R.drop (i + 1) := (h.parts hs hi e).2.2
end

section
variable {B wb bm bh top : Nat} {tp : Option Nat} {X : Nat → Prop} {g : Gr} {D : List (St × Nat)} {T : VT} {H : List VT} {w W W1 W' : World}
/-- A node's attributes are others, in their row or in a new one. -/
theorem PwM.attrs (h : PwM B wb bm bh tp X g D W) {c : Nat} {v' : Value} {R' : List At} (hc : X c) (hg : W.grownBy W1 (g.av c).ownBlock) (ho : OwnAt B W1 v' R') (hw : v'.ownBlock = (g.av c).ownBlock ∨ ∃ k, v'.ownBlock = some k ∧ W.heap.size ≤ k) :
    PwM B wb bm bh tp X { g with o := updF g.o c { g.o c with at_ := R' }, av := updF g.av c v' } D (W1.setCell ⟨c, 4, none⟩ v') ∧ BelT B W (W1.setCell ⟨c, 4, none⟩ v') := by
  have hk2 : ∀ k, k ≠ c → (W1.setCell ⟨c, 4, none⟩ v').heap[k]? = W1.heap[k]? := fun k e => RowKit.Below.heap_setCell _ _ _ _ e
  have haT : ∀ k, (g.av c).ownBlock = some k → ¬ X k ∧ k ≠ wb ∧ k ≠ bm := fun k e => h.aT hc e
  have hX1 : ∀ b, X b → W1.heap[b]? = W.heap[b]? := fun b hb => hg.block b (h.mem.lt hb) fun e => (haT b e.symm).1 hb
  have hvc : ∀ k, v'.ownBlock = some k → k ≠ c := fun k e e2 => by
    rcases hw with e3 | ⟨j, e3, hj⟩
    · exact (haT k (e3 ▸ e)).1 (e2 ▸ hc)
    · rw [e] at e3
      injection e3 with e3
      have := h.mem.lt hc
      omega
  refine ⟨⟨(hk2 _ fun (e : wb = c) => h.wX (e ▸ hc)).trans ((hg.block _ (row_lt h.wr) fun e => (haT _ e.symm).2.1 rfl).trans h.wr), h.mp.keep ((hk2 _ fun (e : bm = c) => h.mX (e ▸ hc)).trans (hg.block _ h.mp.lt fun e => (haT _ e.symm).2.2 rfl)), fun b hb => ?_, fun b hb => ?_, fun b d k hb hd e1 e2 => ?_, h.lo⟩, ⟨?_, fun k cs e => ?_⟩⟩
  · by_cases e : b = c
    · subst e
      rw [heap_setCell_same W1 b 4 _ _ _ ((hX1 b hb).trans (h.mem b hb))]
      simp [gRow, updF_same]
    · rw [hk2 b e, hX1 b hb, h.mem b hb]
      simp only [gRow, updF_ne _ _ e]
  · by_cases e : b = c
    · subst e
      show OwnAt B _ (updF g.av b v' b) (updF g.o b _ b).at_
      rw [updF_same, updF_same]
      exact OwnE.keep ho fun k e2 => hk2 k (hvc k e2)
    · show OwnAt B _ (updF g.av c v' b) (updF g.o c _ b).at_
      rw [updF_ne _ _ e, updF_ne _ _ e]
      exact OwnE.keep (OwnE.keep (h.at_ b hb) fun k e2 => hg.block k (OwnE.lt (h.at_ b hb) k e2).2 fun e3 => e (h.ap b c k hb hc e2 e3.symm)) fun k e2 => hk2 k fun e4 => (h.aT hb e2).1 (e4 ▸ hc)
  · have key : ∀ d k, X d → d ≠ c → v'.ownBlock = some k → (g.av d).ownBlock = some k → False := fun d k hd hdc e1 e2 => by
      rcases hw with e3 | ⟨j, e3, hj⟩
      · exact hdc (h.ap d c k hd hc e2 (e3 ▸ e1))
      · rw [e1] at e3
        injection e3 with e3
        have := (OwnE.lt (h.at_ d hd) k e2).2
        omega
    have e1 : (updF g.av c v' b).ownBlock = some k := e1
    have e2 : (updF g.av c v' d).ownBlock = some k := e2
    by_cases eb : b = c
    · by_cases ed : d = c
      · rw [eb, ed]
      · rw [eb, updF_same] at e1
        rw [updF_ne _ _ ed] at e2
        exact (key d k hd ed e1 e2).elim
    · by_cases ed : d = c
      · rw [ed, updF_same] at e2
        rw [updF_ne _ _ eb] at e1
        exact (key b k hb eb e2 e1).elim
      · rw [updF_ne _ _ eb] at e1
        rw [updF_ne _ _ ed] at e2
        exact h.ap b d k hb hd e1 e2
  · have hb1 : Below B W W1 := ⟨hg.os, hg.tape, hg.output, hg.size, fun k hk => hg.block k (Nat.lt_of_lt_of_le hk h.le) fun e => by have := (OwnE.lt (h.at_ c hc) k e.symm).1; omega⟩
    exact hb1.setCell (p := ⟨c, 4, none⟩) (h.lo.2.2 c hc) _
  · refine (hk2 k fun e2 => h.notX e (by decide) (e2 ▸ hc)).trans ((hg.block k (row_lt e) fun e3 => ?_).trans e)
    obtain ⟨cur, h9⟩ := ownsRow_type (h.at_ c hc) k e3.symm
    rw [e] at h9
    injection h9 with h9
    injection h9 with h8 h9
    revert h9
    decide
end

set_option maxRecDepth 100000 in
set_option maxHeartbeats 2000000 in
/-- attr. -/
theorem attr_any {B wb bm bh : Nat} {tp : Option Nat} {X : Nat → Prop} {g : Gr} {D : List (St × Nat)} (c : Nat) (nm : ByteArray) (w : World) (h : PwM B wb bm bh tp X g D w) (hc : X c) (hl : (g.o c).at_.length ≤ 4096) (hs : (g.o c).at_.Pairwise fun a b => ltT a.1 b.1 = true) :
    Calls Try.prog 85 #[.pointer (some ⟨c, 0, none⟩), .string nm] w fun e w' => SrchA (g.o c).at_ nm w e w' := by
  have u4 : w.cell? ⟨c, 4, none⟩ = some (g.av c) := by rw [cell_of_row w c 4 _ _ _ (h.mem c hc)]; rfl
  have u0 : ∃ v, w.cell? ⟨c, 0, none⟩ = some v := ⟨_, by rw [cell_of_row w c 0 _ _ _ (h.mem c hc)]; rfl⟩
  obtain ⟨v0, u0⟩ := u0
  have HO := hide9 (h.at_ c hc)
  have Hl := hide9 hl
  have Hs := hide9 hs
  clear h hc hl hs
  go_enter Try.func85, Try.ntmps85
  go_wp2_with (go_at_call 101; refine (searchA_any B _ _ nm _ HO.out Hl.out Hs.out).mono ?_; rintro e w1 ⟨i, b, rfl, hp, hb, hw⟩; have HQ := hide9 (And.intro hp (And.intro hb hw)); clear hp hb hw)
  go_ret2
  exact ⟨i, b, rfl, HQ.out.1, HQ.out.2.1, HQ.out.2.2⟩

end Go.Proofs.Ytccpljllgpabnaa

namespace Go.Proofs.Ytccpljllgpabnaa
open Go.RowKit
set_option linter.unusedVariables false
set_option linter.unusedSimpArgs false

section
variable {B wb bm bh top : Nat} {tp : Option Nat} {X : Nat → Prop} {g : Gr} {D : List (St × Nat)} {T : VT} {H : List VT} {w W W1 W' : World}
theorem PwP.recOf (h : PwP bh X g D [T] [top] H) {k : St} {c : Nat} (e : getP Prod.fst D k = some (k, c)) : g.o c ∈ recV T ++ recL H := by
  rcases h.look k with ⟨_, _, e2⟩ | ⟨y, d, m, e1, _, _, e4, _, _, e7⟩ | ⟨y, d, m, r, e1, _, _, e4, _, _, _, e8⟩
  · rw [e] at e2; cases e2
  · rw [e] at e7
    have e9 : c = d := by injection e7 with e7; injection e7
    rw [e9, (Rt_iff.1 e4).1]
    exact List.mem_append_left _ (fndV_rec k T y e1)
  · rw [e] at e8
    have e9 : c = d := by injection e8 with e8; injection e8
    rw [e9, (Rt_iff.1 e4).1]
    exact List.mem_append_right _ (fndL_rec k H y e1)
theorem own_raise {v : Value} {R : List At} (h : OwnAt 0 W v R) (hk : ∀ k, v.ownBlock = some k → B ≤ k) : OwnAt B W v R := by
  refine ⟨h.1, ?_⟩
  rcases h.2 with hn | ⟨g, cap, cur, hv, hg, rest⟩
  · exact .inl hn
  · exact .inr ⟨g, cap, cur, hv, hk g (by rw [hv]; rfl), rest⟩
end
set_option maxRecDepth 100000 in
set_option maxHeartbeats 4000000 in
theorem clearAttr_s {B wb bm bh top : Nat} {X : Nat → Prop} {g : Gr} {D : List (St × Nat)} {T : VT} {H : List VT} (p : Pa) (w : World) (h : PwM B wb bm bh (some top) X g D w) (hp : PwP bh X g D [T] [top] H) (hob : OkB T H) (hkd : p.kd = 9) :
    Calls Try.prog 62 #[.pointer (some ⟨wb, 0, none⟩), paV p] w fun e w' => StpP B wb bm bh top (stepU p T H) e w' ∧ BelT B w w' := by
  have HPp := hide9 hp
  have HKd := hide9 hkd
  rcases hp.fieldU p (by omega) with ⟨e, hst⟩ | ⟨c, e, hc, hck, hst⟩
  · have HE := hide9 e
    have HSt := hide9 hst
    clear e hst
    clear hp hkd hob
    have hbx : Below w.heap.size w (w.alloc (.cells #[.int .i64 p.kd, .int .i64 p.k.1, .int .i64 p.k.2, .int .i64 p.pa.1, .int .i64 p.pa.2, .int .i64 p.af.1, .int .i64 p.af.2, .string p.nm, .string p.vl] 25)) := (Below.refl _ _).alloc (Nat.le_refl _) _
    have HB : Hid (BelT B w (w.alloc (.cells #[.int .i64 p.kd, .int .i64 p.k.1, .int .i64 p.k.2, .int .i64 p.pa.1, .int .i64 p.pa.2, .int .i64 p.af.1, .int .i64 p.af.2, .string p.nm, .string p.vl] 25))) := BelT.of hbx h.le
    have HP : Hid (PwM B wb bm bh (some top) X g D (w.alloc (.cells #[.int .i64 p.kd, .int .i64 p.k.1, .int .i64 p.k.2, .int .i64 p.pa.1, .int .i64 p.pa.2, .int .i64 p.af.1, .int .i64 p.af.2, .string p.nm, .string p.vl] 25))) := h.below hbx
    have HK : Hid ((w.alloc (.cells #[.int .i64 p.kd, .int .i64 p.k.1, .int .i64 p.k.2, .int .i64 p.pa.1, .int .i64 p.pa.2, .int .i64 p.af.1, .int .i64 p.af.2, .string p.nm, .string p.vl] 25)).heap[w.heap.size]? = some (.cells #[.int .i64 p.kd, .int .i64 p.k.1, .int .i64 p.k.2, .int .i64 p.pa.1, .int .i64 p.pa.2, .int .i64 p.af.1, .int .i64 p.af.2, .string p.nm, .string p.vl] 25)) := heap_alloc_new _ _
    clear hbx h
    show Calls Try.prog 62 #[.pointer (some ⟨wb, 0, none⟩), .agg #[.int .i64 p.kd, .int .i64 p.k.1, .int .i64 p.k.2, .int .i64 p.pa.1, .int .i64 p.pa.2, .int .i64 p.af.1, .int .i64 p.af.2, .string p.nm, .string p.vl]] w _
    go_enter Try.func62, Try.ntmps62
    go_wp2
    obtain ⟨W0, eW0⟩ : ∃ X, X = (w.alloc (.cells #[.int .i64 p.kd, .int .i64 p.k.1, .int .i64 p.k.2, .int .i64 p.pa.1, .int .i64 p.pa.2, .int .i64 p.af.1, .int .i64 p.af.2, .string p.nm, .string p.vl] 25)) := ⟨_, rfl⟩
    rw [← eW0] at HB HP HK ⊢
    obtain ⟨kb, ekb⟩ : ∃ b, b = w.heap.size := ⟨_, rfl⟩
    rw [← ekb] at HK ⊢
    clear eW0 ekb
    refine wp_region_held_drew (S := fun W' => PwM B wb bm bh (some top) X g D W' ∧ W'.heap[kb]? = some (.cells #[.int .i64 p.kd, .int .i64 p.k.1, .int .i64 p.k.2, .int .i64 p.pa.1, .int .i64 p.pa.2, .int .i64 p.af.1, .int .i64 p.af.2, .string p.nm, .string p.vl] 25)) (by kernel_rfl) ⟨HP.out.drew, HK.out⟩ (fun hHeld => ?_)
    obtain ⟨Us1False5u0, eW⟩ : ∃ X, X = W0.drew := ⟨_, rfl⟩
    have hb : Below W0.heap.size W0 Us1False5u0 := by rw [eW]; exact (Below.refl _ _).drew
    replace HB : Hid (BelT B w Us1False5u0) := HB.out.trans (BelT.of hb HP.out.le)
    replace HP : Hid (PwM B wb bm bh (some top) X g D Us1False5u0) := HP.out.below hb
    replace HK : Hid (Us1False5u0.heap[kb]? = some (.cells #[.int .i64 p.kd, .int .i64 p.k.1, .int .i64 p.k.2, .int .i64 p.pa.1, .int .i64 p.pa.2, .int .i64 p.af.1, .int .i64 p.af.2, .string p.nm, .string p.vl] 25)) := (hb.block _ (row_lt HK.out)).trans HK.out
    rw [← eW] at hHeld ⊢
    clear eW hb
    refine tkW 0 (some 8) (v := ?_) ?_ hHeld ?_
    rotate_left
    · (intro ww _; go_simp; try with_reducible rfl)
    refine tkW 1 (some 9) (v := ?_) ?_ hHeld ?_
    rotate_left
    · (intro ww hSw; (try dsimp only at hSw); obtain ⟨hP, hK⟩ := hSw; have c0 := hP.c0; have b1 : ww.cell? ⟨kb, 1, none⟩ = some (.int .i64 p.k.1) := (by rw [cell_of_row ww kb 1 _ _ _ hK]; rfl); have b2 : ww.cell? ⟨kb, 2, none⟩ = some (.int .i64 p.k.2) := (by rw [cell_of_row ww kb 2 _ _ _ hK]; rfl); have hlk := hP.lookN HE.out; go_simp; try with_reducible rfl)
    refine tkW 2 (some 10) (v := ?_) ?_ hHeld ?_
    rotate_left
    · (intro ww _; go_simp; try with_reducible rfl)
    refine tkW 3 (some 11) (v := ?_) ?_ hHeld ?_
    rotate_left
    · (intro ww hSw; (try dsimp only at hSw); obtain ⟨hP, hK⟩ := hSw; have c0 := hP.c0; have b1 : ww.cell? ⟨kb, 1, none⟩ = some (.int .i64 p.k.1) := (by rw [cell_of_row ww kb 1 _ _ _ hK]; rfl); have b2 : ww.cell? ⟨kb, 2, none⟩ = some (.int .i64 p.k.2) := (by rw [cell_of_row ww kb 2 _ _ _ hK]; rfl); have hlk := hP.lookN HE.out; go_simp; try with_reducible rfl)
    refine tkW 4 (some 12) (v := ?_) ?_ hHeld ?_
    rotate_left
    · (intro ww _; go_simp; try with_reducible rfl)
    refine tkW 5 (some 13) (v := ?_) ?_ hHeld ?_
    rotate_left
    · (intro ww hSw; (try dsimp only at hSw); obtain ⟨hP, hK⟩ := hSw; have c0 := hP.c0; have b1 : ww.cell? ⟨kb, 1, none⟩ = some (.int .i64 p.k.1) := (by rw [cell_of_row ww kb 1 _ _ _ hK]; rfl); have b2 : ww.cell? ⟨kb, 2, none⟩ = some (.int .i64 p.k.2) := (by rw [cell_of_row ww kb 2 _ _ _ hK]; rfl); have hlk := hP.lookN HE.out; go_simp; try with_reducible rfl)
    refine tkW 6 (some 14) (v := ?_) ?_ hHeld ?_
    rotate_left
    · (intro ww hSw; (try dsimp only at hSw); obtain ⟨hP, hK⟩ := hSw; have c0 := hP.c0; have b1 : ww.cell? ⟨kb, 1, none⟩ = some (.int .i64 p.k.1) := (by rw [cell_of_row ww kb 1 _ _ _ hK]; rfl); have b2 : ww.cell? ⟨kb, 2, none⟩ = some (.int .i64 p.k.2) := (by rw [cell_of_row ww kb 2 _ _ _ hK]; rfl); have hlk := hP.lookN HE.out; go_simp; try with_reducible rfl)
    refine tkW 7 (some 5) (v := ?_) ?_ hHeld ?_
    rotate_left
    · (intro ww _; go_simp; try with_reducible rfl)
    refine wpAnyH_done (by kernel_rfl) ?_ _
    clear hHeld
    go_wp2
    (try rw [Exit.noGoto_ret])
    go_ret
    refine ⟨?_, HB.out⟩
    rw [HSt.out]
    exact StpP.err (by decide)
  · obtain ⟨_, _, hl4, hchk⟩ := chkF_parts (hob.ok _ (hp.recOf e))
    have hsr := (names_lt hchk).2
    have HE := hide9 e
    have HC := hide9 hc
    have HCk := hide9 hck
    have HSt0 := hide9 hst
    have HL := hide9 hl4
    have HSr := hide9 hsr
    clear e hc hck hst hl4 hchk hsr
    clear hp hkd hob
    have hbx : Below w.heap.size w (w.alloc (.cells #[.int .i64 p.kd, .int .i64 p.k.1, .int .i64 p.k.2, .int .i64 p.pa.1, .int .i64 p.pa.2, .int .i64 p.af.1, .int .i64 p.af.2, .string p.nm, .string p.vl] 25)) := (Below.refl _ _).alloc (Nat.le_refl _) _
    have HB : Hid (BelT B w (w.alloc (.cells #[.int .i64 p.kd, .int .i64 p.k.1, .int .i64 p.k.2, .int .i64 p.pa.1, .int .i64 p.pa.2, .int .i64 p.af.1, .int .i64 p.af.2, .string p.nm, .string p.vl] 25))) := BelT.of hbx h.le
    have HP : Hid (PwM B wb bm bh (some top) X g D (w.alloc (.cells #[.int .i64 p.kd, .int .i64 p.k.1, .int .i64 p.k.2, .int .i64 p.pa.1, .int .i64 p.pa.2, .int .i64 p.af.1, .int .i64 p.af.2, .string p.nm, .string p.vl] 25))) := h.below hbx
    have HK : Hid ((w.alloc (.cells #[.int .i64 p.kd, .int .i64 p.k.1, .int .i64 p.k.2, .int .i64 p.pa.1, .int .i64 p.pa.2, .int .i64 p.af.1, .int .i64 p.af.2, .string p.nm, .string p.vl] 25)).heap[w.heap.size]? = some (.cells #[.int .i64 p.kd, .int .i64 p.k.1, .int .i64 p.k.2, .int .i64 p.pa.1, .int .i64 p.pa.2, .int .i64 p.af.1, .int .i64 p.af.2, .string p.nm, .string p.vl] 25)) := heap_alloc_new _ _
    clear hbx h
    show Calls Try.prog 62 #[.pointer (some ⟨wb, 0, none⟩), .agg #[.int .i64 p.kd, .int .i64 p.k.1, .int .i64 p.k.2, .int .i64 p.pa.1, .int .i64 p.pa.2, .int .i64 p.af.1, .int .i64 p.af.2, .string p.nm, .string p.vl]] w _
    go_enter Try.func62, Try.ntmps62
    go_wp2
    obtain ⟨W0, eW0⟩ : ∃ X, X = (w.alloc (.cells #[.int .i64 p.kd, .int .i64 p.k.1, .int .i64 p.k.2, .int .i64 p.pa.1, .int .i64 p.pa.2, .int .i64 p.af.1, .int .i64 p.af.2, .string p.nm, .string p.vl] 25)) := ⟨_, rfl⟩
    rw [← eW0] at HB HP HK ⊢
    obtain ⟨kb, ekb⟩ : ∃ b, b = w.heap.size := ⟨_, rfl⟩
    rw [← ekb] at HK ⊢
    clear eW0 ekb
    refine wp_region_held_drew (S := fun W' => PwM B wb bm bh (some top) X g D W' ∧ W'.heap[kb]? = some (.cells #[.int .i64 p.kd, .int .i64 p.k.1, .int .i64 p.k.2, .int .i64 p.pa.1, .int .i64 p.pa.2, .int .i64 p.af.1, .int .i64 p.af.2, .string p.nm, .string p.vl] 25)) (by kernel_rfl) ⟨HP.out.drew, HK.out⟩ (fun hHeld => ?_)
    obtain ⟨Us1True6u0, eW⟩ : ∃ X, X = W0.drew := ⟨_, rfl⟩
    have hb : Below W0.heap.size W0 Us1True6u0 := by rw [eW]; exact (Below.refl _ _).drew
    replace HB : Hid (BelT B w Us1True6u0) := HB.out.trans (BelT.of hb HP.out.le)
    replace HP : Hid (PwM B wb bm bh (some top) X g D Us1True6u0) := HP.out.below hb
    replace HK : Hid (Us1True6u0.heap[kb]? = some (.cells #[.int .i64 p.kd, .int .i64 p.k.1, .int .i64 p.k.2, .int .i64 p.pa.1, .int .i64 p.pa.2, .int .i64 p.af.1, .int .i64 p.af.2, .string p.nm, .string p.vl] 25)) := (hb.block _ (row_lt HK.out)).trans HK.out
    rw [← eW] at hHeld ⊢
    clear eW hb
    refine tkW 0 (some 8) (v := ?_) ?_ hHeld ?_
    rotate_left
    · (intro ww _; go_simp; try with_reducible rfl)
    refine tkW 1 (some 9) (v := ?_) ?_ hHeld ?_
    rotate_left
    · (intro ww hSw; (try dsimp only at hSw); obtain ⟨hP, hK⟩ := hSw; have c0 := hP.c0; have b1 : ww.cell? ⟨kb, 1, none⟩ = some (.int .i64 p.k.1) := (by rw [cell_of_row ww kb 1 _ _ _ hK]; rfl); have b2 : ww.cell? ⟨kb, 2, none⟩ = some (.int .i64 p.k.2) := (by rw [cell_of_row ww kb 2 _ _ _ hK]; rfl); have hlk := hP.lookS HE.out; go_simp; try with_reducible rfl)
    refine tkW 2 (some 10) (v := ?_) ?_ hHeld ?_
    rotate_left
    · (intro ww _; go_simp; try with_reducible rfl)
    refine tkW 3 (some 11) (v := ?_) ?_ hHeld ?_
    rotate_left
    · (intro ww hSw; (try dsimp only at hSw); obtain ⟨hP, hK⟩ := hSw; have c0 := hP.c0; have b1 : ww.cell? ⟨kb, 1, none⟩ = some (.int .i64 p.k.1) := (by rw [cell_of_row ww kb 1 _ _ _ hK]; rfl); have b2 : ww.cell? ⟨kb, 2, none⟩ = some (.int .i64 p.k.2) := (by rw [cell_of_row ww kb 2 _ _ _ hK]; rfl); have hlk := hP.lookS HE.out; go_simp; try with_reducible rfl)
    refine tkW 4 (some 12) (v := ?_) ?_ hHeld ?_
    rotate_left
    · (intro ww _; go_simp; try with_reducible rfl)
    refine tkW 5 (some 13) (v := ?_) ?_ hHeld ?_
    rotate_left
    · (intro ww hSw; (try dsimp only at hSw); obtain ⟨hP, hK⟩ := hSw; have c0 := hP.c0; have b1 : ww.cell? ⟨kb, 1, none⟩ = some (.int .i64 p.k.1) := (by rw [cell_of_row ww kb 1 _ _ _ hK]; rfl); have b2 : ww.cell? ⟨kb, 2, none⟩ = some (.int .i64 p.k.2) := (by rw [cell_of_row ww kb 2 _ _ _ hK]; rfl); have hlk := hP.lookS HE.out; go_simp; try with_reducible rfl)
    refine tkW 6 (some 14) (v := ?_) ?_ hHeld ?_
    rotate_left
    · (intro ww hSw; (try dsimp only at hSw); obtain ⟨hP, hK⟩ := hSw; have c0 := hP.c0; have b1 : ww.cell? ⟨kb, 1, none⟩ = some (.int .i64 p.k.1) := (by rw [cell_of_row ww kb 1 _ _ _ hK]; rfl); have b2 : ww.cell? ⟨kb, 2, none⟩ = some (.int .i64 p.k.2) := (by rw [cell_of_row ww kb 2 _ _ _ hK]; rfl); have hlk := hP.lookS HE.out; go_simp; try with_reducible rfl)
    refine tkW 7 (some 5) (v := ?_) ?_ hHeld ?_
    rotate_left
    · (intro ww _; go_simp; try with_reducible rfl)
    refine wpAnyH_done (by kernel_rfl) ?_ _
    clear hHeld
    have b7 : Us1True6u0.cell? ⟨kb, 7, none⟩ = some (.string p.nm) := (by rw [cell_of_row Us1True6u0 kb 7 _ _ _ HK.out]; rfl)
    go_upto_region 5 with (go_at_call 85; refine (attr_any c p.nm _ HP.out HC.out.1 HL.out HSr.out).mono ?_; rintro e w4 ⟨i, b, rfl, hpl, hbv, hb⟩; have HQ := hide9 (And.intro hpl (And.intro hbv hb)); clear hpl hbv hb)
    have hpl := HQ.out.1
    have HBv := hide9 HQ.out.2.1
    have hb := HQ.out.2.2
    clear HQ
    replace HB : Hid (BelT B w w4) := HB.out.trans (BelT.of hb HP.out.le)
    replace HK : Hid (w4.heap[kb]? = some (.cells #[.int .i64 p.kd, .int .i64 p.k.1, .int .i64 p.k.2, .int .i64 p.pa.1, .int .i64 p.pa.2, .int .i64 p.af.1, .int .i64 p.af.2, .string p.nm, .string p.vl] 25)) := (hb.block _ (row_lt HK.out)).trans HK.out
    replace HP : Hid (PwM B wb bm bh (some top) X g D w4) := HP.out.below hb
    clear hb
    have hhas := hpl.has HSr.out
    rw [← HBv.out] at hhas
    have HPl := hide9 hpl
    have HHas := hide9 hhas
    clear hpl hhas
    cases b with
    | false =>
      have HSt : Hid (stepU p T H = (4, T, H)) := hide9 (by rw [HSt0.out]; have h9 : (stepF p (g.o c)).1 = 4 := (by unfold stepF; rw [if_neg (by rw [HKd.out]; decide), if_neg (by rw [HKd.out]; decide), if_neg (by rw [HKd.out]; decide), HHas.out]; rfl); rw [h9]; rfl)
      go_wp2
      (try rw [Exit.noGoto_ret])
      go_ret
      refine ⟨?_, HB.out⟩
      rw [HSt.out]
      exact StpP.err (by decide)
    | true =>
      have hex := of_decide_eq_true HBv.out.symm
      obtain ⟨hi, hnm⟩ := hex
      have hdel := delA_del HPl.out HSr.out hi hnm
      obtain ⟨m, hm⟩ : ∃ m, (g.o c).at_.length = i + m + 1 := ⟨(g.o c).at_.length - i - 1, by omega⟩
      have Hdel := hide9 hdel
      have Hm := hide9 hm
      have k0 : (0 : Int) ≤ (i : Int) := by omega
      have k1 : (i : Int) + 1 ≤ 4096 := by have := HL.out; omega
      have HWr : Hid (wrap64 ((i : Int) + 1) = ((i + 1 : Nat) : Int)) := hide9 (by rw [show (i : Int) + 1 = ((i + 1 : Nat) : Int) from by omega]; first | exact wrap64_of (by omega) (by omega) | (unfold wrap64; omega) | go_num)
      clear hdel hm hi hnm k0 k1
      have u4 : w4.cell? ⟨c, 4, none⟩ = some (g.av c) := (by rw [cell_of_row w4 c 4 _ _ _ (HP.out.mem c HC.out.1)]; rfl)
      go_wp2_with (go_at_call 87; rw [HWr.out]; refine (delete_any _ _ i m _ (OwnE.low (HP.out.at_ c HC.out.1) (Nat.zero_le _)) HL.out Hm.out).mono ?_; rintro e w5 ⟨v5, rfl, ho, hg, hw⟩; rw [← Hdel.out] at ho; obtain ⟨a5, c5, e5⟩ := OwnE.form ho; subst e5; have hO := HP.out.attrs (c := c) HC.out.1 hg (own_raise ho (fun k e => (OwnE.lt (HP.out.at_ c HC.out.1) k (hw ▸ e)).1)) (.inl hw); have HO := hide9 hO; have hrow : w5.heap[c]? = some (.cells (gRow g c) 57) := (hg.block c (HP.out.mem.lt HC.out.1) (fun e => (HP.out.aT HC.out.1 e.symm).1 HC.out.1)).trans (HP.out.mem c HC.out.1); have u5 : w5.cell? ⟨c, 4, none⟩ = some (g.av c) := (by rw [cell_of_row w5 c 4 _ _ _ hrow]; rfl); have z5 : w5.frozen? ⟨c, 4, none⟩ = false := frozen_of_row w5 c 4 _ _ hrow; clear hO ho hg hw hrow u4)
      (try rw [Exit.noGoto_ret])
      go_ret
      refine ⟨?_, HB.out.trans HO.out.2⟩
      have e1 : (stepF p (g.o c)).1 = 0 := (by unfold stepF; rw [if_neg (by rw [HKd.out]; decide), if_neg (by rw [HKd.out]; decide), if_neg (by rw [HKd.out]; decide), HHas.out]; rfl)
      have e2 : (stepF p (g.o c)).2 = { g.o c with at_ := delA p.nm (g.o c).at_ } := (by unfold stepF; rw [if_neg (by rw [HKd.out]; decide), if_neg (by rw [HKd.out]; decide), if_neg (by rw [HKd.out]; decide), HHas.out]; rfl)
      rw [HSt0.out, e1, if_neg (by decide)]
      refine StpP.ok ⟨HO.out.1, ?_⟩
      have h9 := HPp.out.with_ (n := c) (k := p.k) (F := fun f => (stepF p f).2) HC.out HCk.out (stepF_k p) (updF g.av c (.slice a5 (delA p.nm (g.o c).at_).length c5))
      (try dsimp only at h9)
      rw [e2] at h9
      simp only [withL] at h9 ⊢
      exact h9

end Go.Proofs.Ytccpljllgpabnaa

namespace Go.Proofs.Ytccpljllgpabnaa
open Go.RowKit
set_option linter.unusedVariables false
set_option linter.unusedSimpArgs false

theorem flatA_set : ∀ (D : List At) (i : Nat) (h : i < D.length) (vl : ByteArray), (flatE atCells D).set (i * 2 + 1) (.string vl) = flatE atCells (D.set i (D[i].1, vl))
  | [], i, h, _ => by simp at h
  | x :: r, 0, _, vl => rfl
  | x :: r, i + 1, h, vl => by
    show (Value.string x.1 :: Value.string x.2 :: flatE atCells r).set ((i + 1) * 2 + 1) (.string vl) = _
    rw [show (i + 1) * 2 + 1 = (i * 2 + 1) + 1 + 1 by omega, List.set_cons_succ, List.set_cons_succ, flatA_set r i (by simpa using h) vl]
    rfl
section
variable {B wb bm bh top : Nat} {tp : Option Nat} {X : Nat → Prop} {g : Gr} {D : List (St × Nat)} {T : VT} {H : List VT} {w W W1 W' : World}
/-- A node's attributes are others, in their row. -/
theorem PwM.attrV (h : PwM B wb bm bh tp X g D W) {c : Nat} {R' : List At} (hc : X c) (hg : W.grownBy W1 (g.av c).ownBlock) (ho : OwnAt B W1 (g.av c) R') :
    PwM B wb bm bh tp X { g with o := updF g.o c { g.o c with at_ := R' }, av := g.av } D W1 ∧ BelT B W W1 := by
  have haT : ∀ k, (g.av c).ownBlock = some k → ¬ X k ∧ k ≠ wb ∧ k ≠ bm := fun k e => h.aT hc e
  have hX1 : ∀ b, X b → W1.heap[b]? = W.heap[b]? := fun b hb => hg.block b (h.mem.lt hb) fun e => (haT b e.symm).1 hb
  refine ⟨⟨(hg.block _ (row_lt h.wr) fun e => (haT _ e.symm).2.1 rfl).trans h.wr, h.mp.keep (hg.block _ h.mp.lt fun e => (haT _ e.symm).2.2 rfl), fun b hb => ?_, fun b hb => ?_, h.ap, h.lo⟩, ⟨⟨hg.os, hg.tape, hg.output, hg.size, fun k hk => hg.block k (Nat.lt_of_lt_of_le hk h.le) fun e => by have := (OwnE.lt (h.at_ c hc) k e.symm).1; omega⟩, fun k cs e => ?_⟩⟩
  · rw [hX1 b hb, h.mem b hb]
    by_cases e : b = c
    · subst e
      simp [gRow, updF_same]
    · simp only [gRow, updF_ne _ _ e]
  · by_cases e : b = c
    · subst e
      show OwnAt B _ (g.av b) (updF g.o b _ b).at_
      rw [updF_same]
      exact ho
    · show OwnAt B _ (g.av b) (updF g.o c _ b).at_
      rw [updF_ne _ _ e]
      exact OwnE.keep (h.at_ b hb) fun k e2 => hg.block k (OwnE.lt (h.at_ b hb) k e2).2 fun e3 => e (h.ap b c k hb hc e2 e3.symm)
  · refine (hg.block k (row_lt e) fun e3 => ?_).trans e
    obtain ⟨cur, h9⟩ := ownsRow_type (h.at_ c hc) k e3.symm
    rw [e] at h9
    injection h9 with h9
    injection h9 with h8 h9
    revert h9
    decide
/-- One value is another one. -/
theorem PwM.setV (h : PwM B wb bm bh tp X g D W) {c i gb cap : Nat} (hc : X c) {nm : ByteArray} (hx : ∃ h : i < (g.o c).at_.length, (g.o c).at_[i].1 = nm) (e : g.av c = .slice (some ⟨gb, 0, none⟩) (g.o c).at_.length cap) (vl : ByteArray) :
    PwM B wb bm bh tp X { g with o := updF g.o c { g.o c with at_ := (g.o c).at_.set i (nm, vl) }, av := g.av } D (W.setCell ⟨gb, i * 2 + 1, none⟩ (.string vl)) ∧ BelT B W (W.setCell ⟨gb, i * 2 + 1, none⟩ (.string vl)) := by
  obtain ⟨hi, hn⟩ := hx
  have h1 := h.at_ c hc
  rw [e] at h1
  obtain ⟨h2, h3⟩ := World.ownsRow.stored h1 (i * 2 + 1) (.string vl)
  refine h.attrV hc (by rw [e]; exact h3) ?_
  rw [e]
  show World.ownsRow _ _ _ _ _ _ _
  rw [List.length_set, ← hn, ← flatA_set _ i hi vl]
  exact h2
theorem PwM.noKb (h : PwM B wb bm bh tp X g D W) {kb c : Nat} {cs : Array Value} (hk : W.heap[kb]? = some (.cells cs 25)) (hc : X c) : some kb ≠ (g.av c).ownBlock := fun e3 => by
  obtain ⟨cur, h9⟩ := ownsRow_type (h.at_ c hc) kb e3.symm
  rw [hk] at h9
  injection h9 with h9
  injection h9 with h8 h9
  revert h9
  decide
end
set_option maxRecDepth 100000 in
set_option maxHeartbeats 4000000 in
theorem setAttr_s {B wb bm bh top : Nat} {X : Nat → Prop} {g : Gr} {D : List (St × Nat)} {T : VT} {H : List VT} (p : Pa) (w : World) (h : PwM B wb bm bh (some top) X g D w) (hp : PwP bh X g D [T] [top] H) (hob : OkB T H) (hkd : p.kd = 8) :
    Calls Try.prog 61 #[.pointer (some ⟨wb, 0, none⟩), paV p] w fun e w' => StpP B wb bm bh top (stepU p T H) e w' ∧ BelT B w w' := by
  have HPp := hide9 hp
  have HKd := hide9 hkd
  rcases hp.fieldU p (by omega) with ⟨e, hst⟩ | ⟨c, e, hc, hck, hst⟩
  · have HE := hide9 e
    have HSt := hide9 hst
    clear e hst
    clear hp hkd hob
    have hbx : Below w.heap.size w (w.alloc (.cells #[.int .i64 p.kd, .int .i64 p.k.1, .int .i64 p.k.2, .int .i64 p.pa.1, .int .i64 p.pa.2, .int .i64 p.af.1, .int .i64 p.af.2, .string p.nm, .string p.vl] 25)) := (Below.refl _ _).alloc (Nat.le_refl _) _
    have HB : Hid (BelT B w (w.alloc (.cells #[.int .i64 p.kd, .int .i64 p.k.1, .int .i64 p.k.2, .int .i64 p.pa.1, .int .i64 p.pa.2, .int .i64 p.af.1, .int .i64 p.af.2, .string p.nm, .string p.vl] 25))) := BelT.of hbx h.le
    have HP : Hid (PwM B wb bm bh (some top) X g D (w.alloc (.cells #[.int .i64 p.kd, .int .i64 p.k.1, .int .i64 p.k.2, .int .i64 p.pa.1, .int .i64 p.pa.2, .int .i64 p.af.1, .int .i64 p.af.2, .string p.nm, .string p.vl] 25))) := h.below hbx
    have HK : Hid ((w.alloc (.cells #[.int .i64 p.kd, .int .i64 p.k.1, .int .i64 p.k.2, .int .i64 p.pa.1, .int .i64 p.pa.2, .int .i64 p.af.1, .int .i64 p.af.2, .string p.nm, .string p.vl] 25)).heap[w.heap.size]? = some (.cells #[.int .i64 p.kd, .int .i64 p.k.1, .int .i64 p.k.2, .int .i64 p.pa.1, .int .i64 p.pa.2, .int .i64 p.af.1, .int .i64 p.af.2, .string p.nm, .string p.vl] 25)) := heap_alloc_new _ _
    clear hbx h
    show Calls Try.prog 61 #[.pointer (some ⟨wb, 0, none⟩), .agg #[.int .i64 p.kd, .int .i64 p.k.1, .int .i64 p.k.2, .int .i64 p.pa.1, .int .i64 p.pa.2, .int .i64 p.af.1, .int .i64 p.af.2, .string p.nm, .string p.vl]] w _
    go_enter Try.func61, Try.ntmps61
    go_wp2
    obtain ⟨W0, eW0⟩ : ∃ X, X = (w.alloc (.cells #[.int .i64 p.kd, .int .i64 p.k.1, .int .i64 p.k.2, .int .i64 p.pa.1, .int .i64 p.pa.2, .int .i64 p.af.1, .int .i64 p.af.2, .string p.nm, .string p.vl] 25)) := ⟨_, rfl⟩
    rw [← eW0] at HB HP HK ⊢
    obtain ⟨kb, ekb⟩ : ∃ b, b = w.heap.size := ⟨_, rfl⟩
    rw [← ekb] at HK ⊢
    clear eW0 ekb
    refine wp_region_held_drew (S := fun W' => PwM B wb bm bh (some top) X g D W' ∧ W'.heap[kb]? = some (.cells #[.int .i64 p.kd, .int .i64 p.k.1, .int .i64 p.k.2, .int .i64 p.pa.1, .int .i64 p.pa.2, .int .i64 p.af.1, .int .i64 p.af.2, .string p.nm, .string p.vl] 25)) (by kernel_rfl) ⟨HP.out.drew, HK.out⟩ (fun hHeld => ?_)
    obtain ⟨Us1False7u0, eW⟩ : ∃ X, X = W0.drew := ⟨_, rfl⟩
    have hb : Below W0.heap.size W0 Us1False7u0 := by rw [eW]; exact (Below.refl _ _).drew
    replace HB : Hid (BelT B w Us1False7u0) := HB.out.trans (BelT.of hb HP.out.le)
    replace HP : Hid (PwM B wb bm bh (some top) X g D Us1False7u0) := HP.out.below hb
    replace HK : Hid (Us1False7u0.heap[kb]? = some (.cells #[.int .i64 p.kd, .int .i64 p.k.1, .int .i64 p.k.2, .int .i64 p.pa.1, .int .i64 p.pa.2, .int .i64 p.af.1, .int .i64 p.af.2, .string p.nm, .string p.vl] 25)) := (hb.block _ (row_lt HK.out)).trans HK.out
    rw [← eW] at hHeld ⊢
    clear eW hb
    refine tkW 0 (some 8) (v := ?_) ?_ hHeld ?_
    rotate_left
    · (intro ww _; go_simp; try with_reducible rfl)
    refine tkW 1 (some 9) (v := ?_) ?_ hHeld ?_
    rotate_left
    · (intro ww hSw; (try dsimp only at hSw); obtain ⟨hP, hK⟩ := hSw; have c0 := hP.c0; have b1 : ww.cell? ⟨kb, 1, none⟩ = some (.int .i64 p.k.1) := (by rw [cell_of_row ww kb 1 _ _ _ hK]; rfl); have b2 : ww.cell? ⟨kb, 2, none⟩ = some (.int .i64 p.k.2) := (by rw [cell_of_row ww kb 2 _ _ _ hK]; rfl); have hlk := hP.lookN HE.out; go_simp; try with_reducible rfl)
    refine tkW 2 (some 10) (v := ?_) ?_ hHeld ?_
    rotate_left
    · (intro ww _; go_simp; try with_reducible rfl)
    refine tkW 3 (some 11) (v := ?_) ?_ hHeld ?_
    rotate_left
    · (intro ww hSw; (try dsimp only at hSw); obtain ⟨hP, hK⟩ := hSw; have c0 := hP.c0; have b1 : ww.cell? ⟨kb, 1, none⟩ = some (.int .i64 p.k.1) := (by rw [cell_of_row ww kb 1 _ _ _ hK]; rfl); have b2 : ww.cell? ⟨kb, 2, none⟩ = some (.int .i64 p.k.2) := (by rw [cell_of_row ww kb 2 _ _ _ hK]; rfl); have hlk := hP.lookN HE.out; go_simp; try with_reducible rfl)
    refine tkW 4 (some 12) (v := ?_) ?_ hHeld ?_
    rotate_left
    · (intro ww _; go_simp; try with_reducible rfl)
    refine tkW 5 (some 13) (v := ?_) ?_ hHeld ?_
    rotate_left
    · (intro ww hSw; (try dsimp only at hSw); obtain ⟨hP, hK⟩ := hSw; have c0 := hP.c0; have b1 : ww.cell? ⟨kb, 1, none⟩ = some (.int .i64 p.k.1) := (by rw [cell_of_row ww kb 1 _ _ _ hK]; rfl); have b2 : ww.cell? ⟨kb, 2, none⟩ = some (.int .i64 p.k.2) := (by rw [cell_of_row ww kb 2 _ _ _ hK]; rfl); have hlk := hP.lookN HE.out; go_simp; try with_reducible rfl)
    refine tkW 6 (some 14) (v := ?_) ?_ hHeld ?_
    rotate_left
    · (intro ww hSw; (try dsimp only at hSw); obtain ⟨hP, hK⟩ := hSw; have c0 := hP.c0; have b1 : ww.cell? ⟨kb, 1, none⟩ = some (.int .i64 p.k.1) := (by rw [cell_of_row ww kb 1 _ _ _ hK]; rfl); have b2 : ww.cell? ⟨kb, 2, none⟩ = some (.int .i64 p.k.2) := (by rw [cell_of_row ww kb 2 _ _ _ hK]; rfl); have hlk := hP.lookN HE.out; go_simp; try with_reducible rfl)
    refine tkW 7 (some 5) (v := ?_) ?_ hHeld ?_
    rotate_left
    · (intro ww _; go_simp; try with_reducible rfl)
    refine wpAnyH_done (by kernel_rfl) ?_ _
    clear hHeld
    go_wp2
    (try rw [Exit.noGoto_ret])
    go_ret
    refine ⟨?_, HB.out⟩
    rw [HSt.out]
    exact StpP.err (by decide)
  · obtain ⟨_, _, hl4, hchk⟩ := chkF_parts (hob.ok _ (hp.recOf e))
    have hsr := (names_lt hchk).2
    have HE := hide9 e
    have HC := hide9 hc
    have HCk := hide9 hck
    have HSt0 := hide9 hst
    have HL := hide9 hl4
    have HSr := hide9 hsr
    clear e hc hck hst hl4 hchk hsr
    clear hp hkd hob
    have hbx : Below w.heap.size w (w.alloc (.cells #[.int .i64 p.kd, .int .i64 p.k.1, .int .i64 p.k.2, .int .i64 p.pa.1, .int .i64 p.pa.2, .int .i64 p.af.1, .int .i64 p.af.2, .string p.nm, .string p.vl] 25)) := (Below.refl _ _).alloc (Nat.le_refl _) _
    have HB : Hid (BelT B w (w.alloc (.cells #[.int .i64 p.kd, .int .i64 p.k.1, .int .i64 p.k.2, .int .i64 p.pa.1, .int .i64 p.pa.2, .int .i64 p.af.1, .int .i64 p.af.2, .string p.nm, .string p.vl] 25))) := BelT.of hbx h.le
    have HP : Hid (PwM B wb bm bh (some top) X g D (w.alloc (.cells #[.int .i64 p.kd, .int .i64 p.k.1, .int .i64 p.k.2, .int .i64 p.pa.1, .int .i64 p.pa.2, .int .i64 p.af.1, .int .i64 p.af.2, .string p.nm, .string p.vl] 25))) := h.below hbx
    have HK : Hid ((w.alloc (.cells #[.int .i64 p.kd, .int .i64 p.k.1, .int .i64 p.k.2, .int .i64 p.pa.1, .int .i64 p.pa.2, .int .i64 p.af.1, .int .i64 p.af.2, .string p.nm, .string p.vl] 25)).heap[w.heap.size]? = some (.cells #[.int .i64 p.kd, .int .i64 p.k.1, .int .i64 p.k.2, .int .i64 p.pa.1, .int .i64 p.pa.2, .int .i64 p.af.1, .int .i64 p.af.2, .string p.nm, .string p.vl] 25)) := heap_alloc_new _ _
    clear hbx h
    show Calls Try.prog 61 #[.pointer (some ⟨wb, 0, none⟩), .agg #[.int .i64 p.kd, .int .i64 p.k.1, .int .i64 p.k.2, .int .i64 p.pa.1, .int .i64 p.pa.2, .int .i64 p.af.1, .int .i64 p.af.2, .string p.nm, .string p.vl]] w _
    go_enter Try.func61, Try.ntmps61
    go_wp2
    obtain ⟨W0, eW0⟩ : ∃ X, X = (w.alloc (.cells #[.int .i64 p.kd, .int .i64 p.k.1, .int .i64 p.k.2, .int .i64 p.pa.1, .int .i64 p.pa.2, .int .i64 p.af.1, .int .i64 p.af.2, .string p.nm, .string p.vl] 25)) := ⟨_, rfl⟩
    rw [← eW0] at HB HP HK ⊢
    obtain ⟨kb, ekb⟩ : ∃ b, b = w.heap.size := ⟨_, rfl⟩
    rw [← ekb] at HK ⊢
    clear eW0 ekb
    refine wp_region_held_drew (S := fun W' => PwM B wb bm bh (some top) X g D W' ∧ W'.heap[kb]? = some (.cells #[.int .i64 p.kd, .int .i64 p.k.1, .int .i64 p.k.2, .int .i64 p.pa.1, .int .i64 p.pa.2, .int .i64 p.af.1, .int .i64 p.af.2, .string p.nm, .string p.vl] 25)) (by kernel_rfl) ⟨HP.out.drew, HK.out⟩ (fun hHeld => ?_)
    obtain ⟨Us1True8u0, eW⟩ : ∃ X, X = W0.drew := ⟨_, rfl⟩
    have hb : Below W0.heap.size W0 Us1True8u0 := by rw [eW]; exact (Below.refl _ _).drew
    replace HB : Hid (BelT B w Us1True8u0) := HB.out.trans (BelT.of hb HP.out.le)
    replace HP : Hid (PwM B wb bm bh (some top) X g D Us1True8u0) := HP.out.below hb
    replace HK : Hid (Us1True8u0.heap[kb]? = some (.cells #[.int .i64 p.kd, .int .i64 p.k.1, .int .i64 p.k.2, .int .i64 p.pa.1, .int .i64 p.pa.2, .int .i64 p.af.1, .int .i64 p.af.2, .string p.nm, .string p.vl] 25)) := (hb.block _ (row_lt HK.out)).trans HK.out
    rw [← eW] at hHeld ⊢
    clear eW hb
    refine tkW 0 (some 8) (v := ?_) ?_ hHeld ?_
    rotate_left
    · (intro ww _; go_simp; try with_reducible rfl)
    refine tkW 1 (some 9) (v := ?_) ?_ hHeld ?_
    rotate_left
    · (intro ww hSw; (try dsimp only at hSw); obtain ⟨hP, hK⟩ := hSw; have c0 := hP.c0; have b1 : ww.cell? ⟨kb, 1, none⟩ = some (.int .i64 p.k.1) := (by rw [cell_of_row ww kb 1 _ _ _ hK]; rfl); have b2 : ww.cell? ⟨kb, 2, none⟩ = some (.int .i64 p.k.2) := (by rw [cell_of_row ww kb 2 _ _ _ hK]; rfl); have hlk := hP.lookS HE.out; go_simp; try with_reducible rfl)
    refine tkW 2 (some 10) (v := ?_) ?_ hHeld ?_
    rotate_left
    · (intro ww _; go_simp; try with_reducible rfl)
    refine tkW 3 (some 11) (v := ?_) ?_ hHeld ?_
    rotate_left
    · (intro ww hSw; (try dsimp only at hSw); obtain ⟨hP, hK⟩ := hSw; have c0 := hP.c0; have b1 : ww.cell? ⟨kb, 1, none⟩ = some (.int .i64 p.k.1) := (by rw [cell_of_row ww kb 1 _ _ _ hK]; rfl); have b2 : ww.cell? ⟨kb, 2, none⟩ = some (.int .i64 p.k.2) := (by rw [cell_of_row ww kb 2 _ _ _ hK]; rfl); have hlk := hP.lookS HE.out; go_simp; try with_reducible rfl)
    refine tkW 4 (some 12) (v := ?_) ?_ hHeld ?_
    rotate_left
    · (intro ww _; go_simp; try with_reducible rfl)
    refine tkW 5 (some 13) (v := ?_) ?_ hHeld ?_
    rotate_left
    · (intro ww hSw; (try dsimp only at hSw); obtain ⟨hP, hK⟩ := hSw; have c0 := hP.c0; have b1 : ww.cell? ⟨kb, 1, none⟩ = some (.int .i64 p.k.1) := (by rw [cell_of_row ww kb 1 _ _ _ hK]; rfl); have b2 : ww.cell? ⟨kb, 2, none⟩ = some (.int .i64 p.k.2) := (by rw [cell_of_row ww kb 2 _ _ _ hK]; rfl); have hlk := hP.lookS HE.out; go_simp; try with_reducible rfl)
    refine tkW 6 (some 14) (v := ?_) ?_ hHeld ?_
    rotate_left
    · (intro ww hSw; (try dsimp only at hSw); obtain ⟨hP, hK⟩ := hSw; have c0 := hP.c0; have b1 : ww.cell? ⟨kb, 1, none⟩ = some (.int .i64 p.k.1) := (by rw [cell_of_row ww kb 1 _ _ _ hK]; rfl); have b2 : ww.cell? ⟨kb, 2, none⟩ = some (.int .i64 p.k.2) := (by rw [cell_of_row ww kb 2 _ _ _ hK]; rfl); have hlk := hP.lookS HE.out; go_simp; try with_reducible rfl)
    refine tkW 7 (some 5) (v := ?_) ?_ hHeld ?_
    rotate_left
    · (intro ww _; go_simp; try with_reducible rfl)
    refine wpAnyH_done (by kernel_rfl) ?_ _
    clear hHeld
    have b7 : Us1True8u0.cell? ⟨kb, 7, none⟩ = some (.string p.nm) := (by rw [cell_of_row Us1True8u0 kb 7 _ _ _ HK.out]; rfl)
    go_upto_region 5 with (go_at_call 85; refine (attr_any c p.nm _ HP.out HC.out.1 HL.out HSr.out).mono ?_; rintro e w4 ⟨i, b, rfl, hpl, hbv, hb⟩; have HQ := hide9 (And.intro hpl (And.intro hbv hb)); clear hpl hbv hb)
    have hpl := HQ.out.1
    have HBv := hide9 HQ.out.2.1
    have hb := HQ.out.2.2
    clear HQ
    replace HB : Hid (BelT B w w4) := HB.out.trans (BelT.of hb HP.out.le)
    replace HK : Hid (w4.heap[kb]? = some (.cells #[.int .i64 p.kd, .int .i64 p.k.1, .int .i64 p.k.2, .int .i64 p.pa.1, .int .i64 p.pa.2, .int .i64 p.af.1, .int .i64 p.af.2, .string p.nm, .string p.vl] 25)) := (hb.block _ (row_lt HK.out)).trans HK.out
    replace HP : Hid (PwM B wb bm bh (some top) X g D w4) := HP.out.below hb
    clear hb
    have hhas := hpl.has HSr.out
    rw [← HBv.out] at hhas
    have HPl := hide9 hpl
    have HHas := hide9 hhas
    clear hpl hhas
    cases b with
    | false =>
      have hno : ¬ ∃ h : i < (g.o c).at_.length, (g.o c).at_[i].1 = p.nm := of_decide_eq_false HBv.out.symm
      have hins := setA_ins (vl := p.vl) HPl.out HSr.out hno
      have Hins := hide9 hins
      have hil := HPl.out.1
      have Hil := hide9 hil
      clear hno hins hil
      obtain ⟨a4, c4, e4⟩ := OwnE.form (HP.out.at_ c HC.out.1)
      have He4 := hide9 e4
      clear e4
      have u4 : w4.cell? ⟨c, 4, none⟩ = some (.slice a4 (g.o c).at_.length c4) := (by rw [cell_of_row w4 c 4 _ _ _ (HP.out.mem c HC.out.1), ← He4.out]; rfl)
      by_cases hfull : (g.o c).at_.length = 4096
      · have HSt : Hid (stepU p T H = (6, T, H)) := hide9 (by rw [HSt0.out]; have h9 : (stepF p (g.o c)).1 = 6 := (by unfold stepF; rw [if_neg (by rw [HKd.out]; decide), if_neg (by rw [HKd.out]; decide), if_pos HKd.out, if_pos ⟨HHas.out, hfull⟩]); rw [h9]; rfl)
        rw [hfull] at u4
        clear hfull
        go_wp2
        (try rw [Exit.noGoto_ret])
        go_ret
        refine ⟨?_, HB.out⟩
        rw [HSt.out]
        exact StpP.err (by decide)
      · have Hfull := hide9 hfull
        have k9 : ¬ ((g.o c).at_.length : Int) = 4096 := by omega
        have k8 : (((g.o c).at_.length : Int) == 4096) = false := by simpa using k9
        clear hfull
        go_upto_region 10 with fail
        clear u4 k9 k8
        refine wp_region_held_drew (S := fun W' => W'.heap[kb]? = some (.cells #[.int .i64 p.kd, .int .i64 p.k.1, .int .i64 p.k.2, .int .i64 p.pa.1, .int .i64 p.pa.2, .int .i64 p.af.1, .int .i64 p.af.2, .string p.nm, .string p.vl] 25)) (by kernel_rfl) HK.out (fun hHeld => ?_)
        obtain ⟨Us1010u0, eW⟩ : ∃ X, X = w4.drew := ⟨_, rfl⟩
        have hb : Below w4.heap.size w4 Us1010u0 := by rw [eW]; exact (Below.refl _ _).drew
        replace HB : Hid (BelT B w Us1010u0) := HB.out.trans (BelT.of hb HP.out.le)
        replace HP : Hid (PwM B wb bm bh (some top) X g D Us1010u0) := HP.out.below hb
        replace HK : Hid (Us1010u0.heap[kb]? = some (.cells #[.int .i64 p.kd, .int .i64 p.k.1, .int .i64 p.k.2, .int .i64 p.pa.1, .int .i64 p.pa.2, .int .i64 p.af.1, .int .i64 p.af.2, .string p.nm, .string p.vl] 25)) := (hb.block _ (row_lt HK.out)).trans HK.out
        rw [← eW] at hHeld ⊢
        clear eW hb
        refine tkW 0 (some 42) (v := ?_) ?_ hHeld ?_
        rotate_left
        · (intro ww _; go_simp; try with_reducible rfl)
        refine tkW 1 (some 43) (v := ?_) ?_ hHeld ?_
        rotate_left
        · (intro ww _; go_simp; try with_reducible rfl)
        refine tkW 2 (some 44) (v := ?_) ?_ hHeld ?_
        rotate_left
        · (intro ww hSw; (try dsimp only at hSw); have b7 : ww.cell? ⟨kb, 7, none⟩ = some (.string p.nm) := (by rw [cell_of_row ww kb 7 _ _ _ hSw]; rfl); have b8 : ww.cell? ⟨kb, 8, none⟩ = some (.string p.vl) := (by rw [cell_of_row ww kb 8 _ _ _ hSw]; rfl); go_simp; try with_reducible rfl)
        refine tkW 3 (some 45) (v := ?_) ?_ hHeld ?_
        rotate_left
        · (intro ww _; go_simp; try with_reducible rfl)
        refine tkW 4 (some 46) (v := ?_) ?_ hHeld ?_
        rotate_left
        · (intro ww _; go_simp; try with_reducible rfl)
        refine tkW 6 (some 48) (v := ?_) ?_ hHeld ?_
        rotate_left
        · (intro ww _; go_simp; try with_reducible rfl)
        refine tkW 7 (some 49) (v := ?_) ?_ hHeld ?_
        rotate_left
        · (intro ww _; go_simp; try with_reducible rfl)
        refine tkW 8 (some 50) (v := ?_) ?_ hHeld ?_
        rotate_left
        · (intro ww hSw; (try dsimp only at hSw); have b7 : ww.cell? ⟨kb, 7, none⟩ = some (.string p.nm) := (by rw [cell_of_row ww kb 7 _ _ _ hSw]; rfl); have b8 : ww.cell? ⟨kb, 8, none⟩ = some (.string p.vl) := (by rw [cell_of_row ww kb 8 _ _ _ hSw]; rfl); go_simp; try with_reducible rfl)
        refine tkW 9 (some 51) (v := ?_) ?_ hHeld ?_
        rotate_left
        · (intro ww _; go_simp; try with_reducible rfl)
        refine tkW 10 (some 52) (v := ?_) ?_ hHeld ?_
        rotate_left
        · (intro ww hSw; (try dsimp only at hSw); have b7 : ww.cell? ⟨kb, 7, none⟩ = some (.string p.nm) := (by rw [cell_of_row ww kb 7 _ _ _ hSw]; rfl); have b8 : ww.cell? ⟨kb, 8, none⟩ = some (.string p.vl) := (by rw [cell_of_row ww kb 8 _ _ _ hSw]; rfl); go_simp; try with_reducible rfl)
        refine tkW 11 (some 53) (v := ?_) ?_ hHeld ?_
        rotate_left
        · (intro ww hSw; (try dsimp only at hSw); have b7 : ww.cell? ⟨kb, 7, none⟩ = some (.string p.nm) := (by rw [cell_of_row ww kb 7 _ _ _ hSw]; rfl); have b8 : ww.cell? ⟨kb, 8, none⟩ = some (.string p.vl) := (by rw [cell_of_row ww kb 8 _ _ _ hSw]; rfl); go_simp; try with_reducible rfl)
        refine wpAnyH_ready (rs := [5, 12]) (by kernel_rfl) (by simp) ?_
        refine AllReadyH.cons (o := ⟨some 47, _, _, _, _, _⟩) rfl (fun K hK => ?_) (AllReadyH.cons (o := ⟨some 54, _, _, _, _, _⟩) rfl (fun K hK => ?_) AllReadyH.nil)
        · have u4 : Us1010u0.cell? ⟨c, 4, none⟩ = some (.slice a4 (g.o c).at_.length c4) := (by rw [cell_of_row Us1010u0 c 4 _ _ _ (HP.out.mem c HC.out.1), ← He4.out]; rfl)
          go_simp
          refine hK.out _ _ (hHeld) (fun hHeld2 => ?_)
          clear hK K hHeld
          have hHeld := hHeld2
          clear hHeld2
          (try simp only [Act.put, List.setIfInBounds_toArray, List.set_cons_zero, List.set_cons_succ])
          clear u4
          refine wpAnyH_ready (rs := [12]) (by kernel_rfl) (by simp) ?_
          refine AllReadyH.cons (o := ⟨some 54, _, _, _, _, _⟩) rfl (fun K hK => ?_) AllReadyH.nil
          have hnb : ∀ k, (g.av c).ownBlock = some k → k ≠ Us1010u0.heap.size := fun k e => Nat.ne_of_lt (OwnE.lt (HP.out.at_ c HC.out.1) k e).2
          have hbx : Below Us1010u0.heap.size Us1010u0 (Us1010u0.alloc (.cells #[.string p.nm, .string p.vl] 86)) := (Below.refl _ _).alloc (Nat.le_refl _) _
          go_simp
          refine hK.out _ _ ((hbx.block _ (row_lt hHeld)).trans hHeld) (fun hHeld2 => ?_)
          clear hK K hHeld
          have hHeld := hHeld2
          clear hHeld2
          (try simp only [Act.put, List.setIfInBounds_toArray, List.set_cons_zero, List.set_cons_succ])
          obtain ⟨Us1010u2, eW⟩ : ∃ X, X = Us1010u0.alloc (.cells #[.string p.nm, .string p.vl] 86) := ⟨_, rfl⟩
          have hb : Below Us1010u0.heap.size Us1010u0 Us1010u2 := by rw [eW]; exact (Below.refl _ _).alloc (Nat.le_refl _) _
          replace HB : Hid (BelT B w Us1010u2) := HB.out.trans (BelT.of hb HP.out.le)
          replace HP : Hid (PwM B wb bm bh (some top) X g D Us1010u2) := HP.out.below hb
          replace HK : Hid (Us1010u2.heap[kb]? = some (.cells #[.int .i64 p.kd, .int .i64 p.k.1, .int .i64 p.k.2, .int .i64 p.pa.1, .int .i64 p.pa.2, .int .i64 p.af.1, .int .i64 p.af.2, .string p.nm, .string p.vl] 25)) := (hb.block _ (row_lt HK.out)).trans HK.out
          have HV : Hid (Us1010u2.heap[Us1010u0.heap.size]? = some (.cells #[.string p.nm, .string p.vl] 86)) := by rw [eW]; exact heap_alloc_new _ _
          rw [← eW] at hHeld ⊢
          clear eW
          clear hbx
          obtain ⟨nb, enb⟩ : ∃ b, b = Us1010u0.heap.size := ⟨_, rfl⟩
          rw [← enb] at HV hnb ⊢
          clear enb
          have HNb := hide9 hnb
          clear hnb
          clear hb
          refine wpAnyH_ready (rs := [13]) (by kernel_rfl) (by simp) ?_
          refine AllReadyH.cons (o := ⟨some 55, _, _, _, _, _⟩) rfl (fun K hK => ?_) AllReadyH.nil
          go_simp
          have hA : OwnAt 0 Us1010u2 (.slice a4 (g.o c).at_.length c4) (g.o c).at_ := OwnE.low (by rw [← He4.out]; exact HP.out.at_ c HC.out.1) (Nat.zero_le B)
          refine (insert_any _ (g.o c).at_ i (p.nm, p.vl) nb _ hA HL.out Hil.out HV.out (fun e => HNb.out nb (by rw [He4.out]; exact e) rfl)).mono ?_
          rintro e Us1010u3 ⟨v5, rfl, ho, hg, hw⟩
          rw [← He4.out] at hg hw
          rw [← Hins.out] at ho
          obtain ⟨a5, c5, e5⟩ := OwnE.form ho
          subst e5
          have hra : ∀ k, (Value.slice a5 (setA p.nm p.vl (g.o c).at_).length c5).ownBlock = some k → B ≤ k := fun k e => (by rcases hw with e3 | ⟨j, e3, hj⟩; (rw [e3] at e; exact (OwnE.lt (HP.out.at_ c HC.out.1) k e).1); (rw [e] at e3; injection e3 with e3; have := HP.out.le; omega))
          have hO := HP.out.attrs (c := c) HC.out.1 hg (own_raise ho hra) hw
          have hrow : Us1010u3.heap[c]? = some (.cells (gRow g c) 57) := (hg.block c (HP.out.mem.lt HC.out.1) (fun e => (HP.out.aT HC.out.1 e.symm).1 HC.out.1)).trans (HP.out.mem c HC.out.1)
          have hK5 : Us1010u3.heap[kb]? = some (.cells #[.int .i64 p.kd, .int .i64 p.k.1, .int .i64 p.k.2, .int .i64 p.pa.1, .int .i64 p.pa.2, .int .i64 p.af.1, .int .i64 p.af.2, .string p.nm, .string p.vl] 25) := (hg.block kb (row_lt HK.out) (HP.out.noKb HK.out HC.out.1)).trans HK.out
          have HkC : Hid (kb ≠ c) := fun e => HP.out.notX HK.out (by decide) (e ▸ HC.out.1)
          have HO := hide9 hO
          have HB2 : Hid (BelT B w (Us1010u3.setCell ⟨c, 4, none⟩ (.slice a5 (setA p.nm p.vl (g.o c).at_).length c5))) := HB.out.trans hO.2
          have HR5 := hide9 hrow
          have HK5 := hide9 hK5
          clear hO ho hg hw hra hrow hK5 hA
          (try go_wp2_with fail)
          refine hK.out _ _ (HK5.out) (fun hHeld2 => ?_)
          clear hK K hHeld
          have hHeld := hHeld2
          clear hHeld2
          (try simp only [Act.put, List.setIfInBounds_toArray, List.set_cons_zero, List.set_cons_succ])
          clear HP HB HK HV HNb
          refine tkW 14 (some 56) (v := ?_) ?_ hHeld ?_
          rotate_left
          · (intro ww hSw; (try dsimp only at hSw); have b7 : ww.cell? ⟨kb, 7, none⟩ = some (.string p.nm) := (by rw [cell_of_row ww kb 7 _ _ _ hSw]; rfl); have b8 : ww.cell? ⟨kb, 8, none⟩ = some (.string p.vl) := (by rw [cell_of_row ww kb 8 _ _ _ hSw]; rfl); go_simp; try with_reducible rfl)
          refine tkW 15 (some 57) (v := ?_) ?_ hHeld ?_
          rotate_left
          · (intro ww _; go_simp; try with_reducible rfl)
          refine tkW 16 (some 58) (v := ?_) ?_ hHeld ?_
          rotate_left
          · (intro ww _; go_simp; try with_reducible rfl)
          refine wpAnyH_ready (rs := [17]) (by kernel_rfl) (by simp) ?_
          refine AllReadyH.cons (o := ⟨none, _, _, _, _, _⟩) rfl (fun K hK => ?_) AllReadyH.nil
          have u5 : Us1010u3.cell? ⟨c, 4, none⟩ = some (g.av c) := (by rw [cell_of_row Us1010u3 c 4 _ _ _ HR5.out]; rfl)
          have z5 : Us1010u3.frozen? ⟨c, 4, none⟩ = false := frozen_of_row Us1010u3 c 4 _ _ HR5.out
          have hS9 : (fun W' => W'.heap[kb]? = some (.cells #[.int .i64 p.kd, .int .i64 p.k.1, .int .i64 p.k.2, .int .i64 p.pa.1, .int .i64 p.pa.2, .int .i64 p.af.1, .int .i64 p.af.2, .string p.nm, .string p.vl] 25)) (Us1010u3.setCell ⟨c, 4, none⟩ (.slice a5 (setA p.nm p.vl (g.o c).at_).length c5)) := (RowKit.Below.heap_setCell _ _ _ _ HkC.out).trans HK5.out
          go_simp
          refine hK.out _ _ (hS9) (fun hHeld2 => ?_)
          clear hK K hHeld
          have hHeld := hHeld2
          clear hHeld2
          (try simp only [Act.put, List.setIfInBounds_toArray, List.set_cons_zero, List.set_cons_succ])
          clear u5 z5 hS9
          refine wpAnyH_done (by kernel_rfl) ?_ _
          clear hHeld
          go_wp2
          (try rw [Exit.noGoto_ret])
          go_ret
          refine ⟨?_, HB2.out⟩
          have e1 : (stepF p (g.o c)).1 = 0 := (by unfold stepF; rw [if_neg (by rw [HKd.out]; decide), if_neg (by rw [HKd.out]; decide), if_pos HKd.out, if_neg (fun e => Hfull.out e.2)])
          have e2 : (stepF p (g.o c)).2 = { g.o c with at_ := setA p.nm p.vl (g.o c).at_ } := (by unfold stepF; rw [if_neg (by rw [HKd.out]; decide), if_neg (by rw [HKd.out]; decide), if_pos HKd.out, if_neg (fun e => Hfull.out e.2)])
          rw [HSt0.out, e1, if_neg (by decide)]
          refine StpP.ok ⟨HO.out.1, ?_⟩
          have h9 := HPp.out.with_ (n := c) (k := p.k) (F := fun f => (stepF p f).2) HC.out HCk.out (stepF_k p) (updF g.av c (.slice a5 (setA p.nm p.vl (g.o c).at_).length c5))
          (try dsimp only at h9)
          rw [e2] at h9
          simp only [withL] at h9 ⊢
          exact h9
        · have hnb : ∀ k, (g.av c).ownBlock = some k → k ≠ Us1010u0.heap.size := fun k e => Nat.ne_of_lt (OwnE.lt (HP.out.at_ c HC.out.1) k e).2
          have hbx : Below Us1010u0.heap.size Us1010u0 (Us1010u0.alloc (.cells #[.string p.nm, .string p.vl] 86)) := (Below.refl _ _).alloc (Nat.le_refl _) _
          go_simp
          refine hK.out _ _ ((hbx.block _ (row_lt hHeld)).trans hHeld) (fun hHeld2 => ?_)
          clear hK K hHeld
          have hHeld := hHeld2
          clear hHeld2
          (try simp only [Act.put, List.setIfInBounds_toArray, List.set_cons_zero, List.set_cons_succ])
          obtain ⟨Us1010u5, eW⟩ : ∃ X, X = Us1010u0.alloc (.cells #[.string p.nm, .string p.vl] 86) := ⟨_, rfl⟩
          have hb : Below Us1010u0.heap.size Us1010u0 Us1010u5 := by rw [eW]; exact (Below.refl _ _).alloc (Nat.le_refl _) _
          replace HB : Hid (BelT B w Us1010u5) := HB.out.trans (BelT.of hb HP.out.le)
          replace HP : Hid (PwM B wb bm bh (some top) X g D Us1010u5) := HP.out.below hb
          replace HK : Hid (Us1010u5.heap[kb]? = some (.cells #[.int .i64 p.kd, .int .i64 p.k.1, .int .i64 p.k.2, .int .i64 p.pa.1, .int .i64 p.pa.2, .int .i64 p.af.1, .int .i64 p.af.2, .string p.nm, .string p.vl] 25)) := (hb.block _ (row_lt HK.out)).trans HK.out
          have HV : Hid (Us1010u5.heap[Us1010u0.heap.size]? = some (.cells #[.string p.nm, .string p.vl] 86)) := by rw [eW]; exact heap_alloc_new _ _
          rw [← eW] at hHeld ⊢
          clear eW
          clear hbx
          obtain ⟨nb, enb⟩ : ∃ b, b = Us1010u0.heap.size := ⟨_, rfl⟩
          rw [← enb] at HV hnb ⊢
          clear enb
          have HNb := hide9 hnb
          clear hnb
          clear hb
          refine wpAnyH_ready (rs := [5]) (by kernel_rfl) (by simp) ?_
          refine AllReadyH.cons (o := ⟨some 47, _, _, _, _, _⟩) rfl (fun K hK => ?_) AllReadyH.nil
          have u4 : Us1010u5.cell? ⟨c, 4, none⟩ = some (.slice a4 (g.o c).at_.length c4) := (by rw [cell_of_row Us1010u5 c 4 _ _ _ (HP.out.mem c HC.out.1), ← He4.out]; rfl)
          go_simp
          refine hK.out _ _ (hHeld) (fun hHeld2 => ?_)
          clear hK K hHeld
          have hHeld := hHeld2
          clear hHeld2
          (try simp only [Act.put, List.setIfInBounds_toArray, List.set_cons_zero, List.set_cons_succ])
          clear u4
          refine wpAnyH_ready (rs := [13]) (by kernel_rfl) (by simp) ?_
          refine AllReadyH.cons (o := ⟨some 55, _, _, _, _, _⟩) rfl (fun K hK => ?_) AllReadyH.nil
          go_simp
          have hA : OwnAt 0 Us1010u5 (.slice a4 (g.o c).at_.length c4) (g.o c).at_ := OwnE.low (by rw [← He4.out]; exact HP.out.at_ c HC.out.1) (Nat.zero_le B)
          refine (insert_any _ (g.o c).at_ i (p.nm, p.vl) nb _ hA HL.out Hil.out HV.out (fun e => HNb.out nb (by rw [He4.out]; exact e) rfl)).mono ?_
          rintro e Us1010u7 ⟨v5, rfl, ho, hg, hw⟩
          rw [← He4.out] at hg hw
          rw [← Hins.out] at ho
          obtain ⟨a5, c5, e5⟩ := OwnE.form ho
          subst e5
          have hra : ∀ k, (Value.slice a5 (setA p.nm p.vl (g.o c).at_).length c5).ownBlock = some k → B ≤ k := fun k e => (by rcases hw with e3 | ⟨j, e3, hj⟩; (rw [e3] at e; exact (OwnE.lt (HP.out.at_ c HC.out.1) k e).1); (rw [e] at e3; injection e3 with e3; have := HP.out.le; omega))
          have hO := HP.out.attrs (c := c) HC.out.1 hg (own_raise ho hra) hw
          have hrow : Us1010u7.heap[c]? = some (.cells (gRow g c) 57) := (hg.block c (HP.out.mem.lt HC.out.1) (fun e => (HP.out.aT HC.out.1 e.symm).1 HC.out.1)).trans (HP.out.mem c HC.out.1)
          have hK5 : Us1010u7.heap[kb]? = some (.cells #[.int .i64 p.kd, .int .i64 p.k.1, .int .i64 p.k.2, .int .i64 p.pa.1, .int .i64 p.pa.2, .int .i64 p.af.1, .int .i64 p.af.2, .string p.nm, .string p.vl] 25) := (hg.block kb (row_lt HK.out) (HP.out.noKb HK.out HC.out.1)).trans HK.out
          have HkC : Hid (kb ≠ c) := fun e => HP.out.notX HK.out (by decide) (e ▸ HC.out.1)
          have HO := hide9 hO
          have HB2 : Hid (BelT B w (Us1010u7.setCell ⟨c, 4, none⟩ (.slice a5 (setA p.nm p.vl (g.o c).at_).length c5))) := HB.out.trans hO.2
          have HR5 := hide9 hrow
          have HK5 := hide9 hK5
          clear hO ho hg hw hra hrow hK5 hA
          (try go_wp2_with fail)
          refine hK.out _ _ (HK5.out) (fun hHeld2 => ?_)
          clear hK K hHeld
          have hHeld := hHeld2
          clear hHeld2
          (try simp only [Act.put, List.setIfInBounds_toArray, List.set_cons_zero, List.set_cons_succ])
          clear HP HB HK HV HNb
          refine tkW 14 (some 56) (v := ?_) ?_ hHeld ?_
          rotate_left
          · (intro ww hSw; (try dsimp only at hSw); have b7 : ww.cell? ⟨kb, 7, none⟩ = some (.string p.nm) := (by rw [cell_of_row ww kb 7 _ _ _ hSw]; rfl); have b8 : ww.cell? ⟨kb, 8, none⟩ = some (.string p.vl) := (by rw [cell_of_row ww kb 8 _ _ _ hSw]; rfl); go_simp; try with_reducible rfl)
          refine tkW 15 (some 57) (v := ?_) ?_ hHeld ?_
          rotate_left
          · (intro ww _; go_simp; try with_reducible rfl)
          refine tkW 16 (some 58) (v := ?_) ?_ hHeld ?_
          rotate_left
          · (intro ww _; go_simp; try with_reducible rfl)
          refine wpAnyH_ready (rs := [17]) (by kernel_rfl) (by simp) ?_
          refine AllReadyH.cons (o := ⟨none, _, _, _, _, _⟩) rfl (fun K hK => ?_) AllReadyH.nil
          have u5 : Us1010u7.cell? ⟨c, 4, none⟩ = some (g.av c) := (by rw [cell_of_row Us1010u7 c 4 _ _ _ HR5.out]; rfl)
          have z5 : Us1010u7.frozen? ⟨c, 4, none⟩ = false := frozen_of_row Us1010u7 c 4 _ _ HR5.out
          have hS9 : (fun W' => W'.heap[kb]? = some (.cells #[.int .i64 p.kd, .int .i64 p.k.1, .int .i64 p.k.2, .int .i64 p.pa.1, .int .i64 p.pa.2, .int .i64 p.af.1, .int .i64 p.af.2, .string p.nm, .string p.vl] 25)) (Us1010u7.setCell ⟨c, 4, none⟩ (.slice a5 (setA p.nm p.vl (g.o c).at_).length c5)) := (RowKit.Below.heap_setCell _ _ _ _ HkC.out).trans HK5.out
          go_simp
          refine hK.out _ _ (hS9) (fun hHeld2 => ?_)
          clear hK K hHeld
          have hHeld := hHeld2
          clear hHeld2
          (try simp only [Act.put, List.setIfInBounds_toArray, List.set_cons_zero, List.set_cons_succ])
          clear u5 z5 hS9
          refine wpAnyH_done (by kernel_rfl) ?_ _
          clear hHeld
          go_wp2
          (try rw [Exit.noGoto_ret])
          go_ret
          refine ⟨?_, HB2.out⟩
          have e1 : (stepF p (g.o c)).1 = 0 := (by unfold stepF; rw [if_neg (by rw [HKd.out]; decide), if_neg (by rw [HKd.out]; decide), if_pos HKd.out, if_neg (fun e => Hfull.out e.2)])
          have e2 : (stepF p (g.o c)).2 = { g.o c with at_ := setA p.nm p.vl (g.o c).at_ } := (by unfold stepF; rw [if_neg (by rw [HKd.out]; decide), if_neg (by rw [HKd.out]; decide), if_pos HKd.out, if_neg (fun e => Hfull.out e.2)])
          rw [HSt0.out, e1, if_neg (by decide)]
          refine StpP.ok ⟨HO.out.1, ?_⟩
          have h9 := HPp.out.with_ (n := c) (k := p.k) (F := fun f => (stepF p f).2) HC.out HCk.out (stepF_k p) (updF g.av c (.slice a5 (setA p.nm p.vl (g.o c).at_).length c5))
          (try dsimp only at h9)
          rw [e2] at h9
          simp only [withL] at h9 ⊢
          exact h9
    | true =>
      obtain ⟨hi, hnm⟩ := of_decide_eq_true HBv.out.symm
      have hset := setA_set (vl := p.vl) HPl.out HSr.out hi hnm
      have Hset := hide9 hset
      have Hi : Hid (∃ h : i < (g.o c).at_.length, (g.o c).at_[i].1 = p.nm) := ⟨hi, hnm⟩
      obtain ⟨gb, cap, ev, hcap, hcs, hz⟩ := OwnE.cells atCells_len (HP.out.at_ c HC.out.1) hi
      have Hev := hide9 ev
      have k0 : (0 : Int) ≤ (i : Int) := by omega
      have k1 : (i : Int) < ((g.o c).at_.length : Int) := by omega
      have hkc : gb ≠ c := fun e => (HP.out.aT HC.out.1 (by rw [ev]; rfl)).1 (e ▸ HC.out.1)
      have hkb : kb ≠ gb := fun e => HP.out.noKb HK.out HC.out.1 (by rw [ev, e]; rfl)
      have HN := hide9 (And.intro hkc hkb)
      clear hset hi hnm hcap hcs hz ev hkc hkb
      go_upto_region 6 with fail
      refine wp_region_held_drew (S := fun W' => W'.cell? ⟨c, 4, none⟩ = some (.slice (some ⟨gb, 0, none⟩) (g.o c).at_.length cap) ∧ W'.heap[kb]? = some (.cells #[.int .i64 p.kd, .int .i64 p.k.1, .int .i64 p.k.2, .int .i64 p.pa.1, .int .i64 p.pa.2, .int .i64 p.af.1, .int .i64 p.af.2, .string p.nm, .string p.vl] 25)) (by kernel_rfl) ⟨(by rw [cell_of_row w4.drew c 4 _ _ _ (HP.out.drew.mem c HC.out.1), ← Hev.out]; rfl), HK.out⟩ (fun hHeld => ?_)
      obtain ⟨Us69u0, eW⟩ : ∃ X, X = w4.drew := ⟨_, rfl⟩
      have hb : Below w4.heap.size w4 Us69u0 := by rw [eW]; exact (Below.refl _ _).drew
      replace HB : Hid (BelT B w Us69u0) := HB.out.trans (BelT.of hb HP.out.le)
      replace HP : Hid (PwM B wb bm bh (some top) X g D Us69u0) := HP.out.below hb
      replace HK : Hid (Us69u0.heap[kb]? = some (.cells #[.int .i64 p.kd, .int .i64 p.k.1, .int .i64 p.k.2, .int .i64 p.pa.1, .int .i64 p.pa.2, .int .i64 p.af.1, .int .i64 p.af.2, .string p.nm, .string p.vl] 25)) := (hb.block _ (row_lt HK.out)).trans HK.out
      rw [← eW] at hHeld ⊢
      clear eW hb
      refine tkW 0 (some 25) (v := ?_) ?_ hHeld ?_
      rotate_left
      · (intro ww _; go_simp; try with_reducible rfl)
      refine tkW 1 (some 26) (v := ?_) ?_ hHeld ?_
      rotate_left
      · (intro ww hSw; (try dsimp only at hSw); obtain ⟨c4, hK⟩ := hSw; have b8 : ww.cell? ⟨kb, 8, none⟩ = some (.string p.vl) := (by rw [cell_of_row ww kb 8 _ _ _ hK]; rfl); go_simp; try with_reducible rfl)
      refine tkW 2 (some 27) (v := ?_) ?_ hHeld ?_
      rotate_left
      · (intro ww _; go_simp; try with_reducible rfl)
      refine tkW 3 (some 28) (v := ?_) ?_ hHeld ?_
      rotate_left
      · (intro ww _; go_simp; try with_reducible rfl)
      refine tkW 4 (some 29) (v := ?_) ?_ hHeld ?_
      rotate_left
      · (intro ww hSw; (try dsimp only at hSw); obtain ⟨c4, hK⟩ := hSw; have b8 : ww.cell? ⟨kb, 8, none⟩ = some (.string p.vl) := (by rw [cell_of_row ww kb 8 _ _ _ hK]; rfl); go_simp; try with_reducible rfl)
      refine tkW 5 (some 30) (v := ?_) ?_ hHeld ?_
      rotate_left
      · (intro ww _; go_simp; try with_reducible rfl)
      refine tkW 6 (some 31) (v := ?_) ?_ hHeld ?_
      rotate_left
      · (intro ww _; go_simp; try with_reducible rfl)
      refine tkW 7 (some 32) (v := ?_) ?_ hHeld ?_
      rotate_left
      · (intro ww hSw; (try dsimp only at hSw); obtain ⟨c4, hK⟩ := hSw; have b8 : ww.cell? ⟨kb, 8, none⟩ = some (.string p.vl) := (by rw [cell_of_row ww kb 8 _ _ _ hK]; rfl); go_simp; try with_reducible rfl)
      refine tkW 8 (some 33) (v := ?_) ?_ hHeld ?_
      rotate_left
      · (intro ww hSw; (try dsimp only at hSw); obtain ⟨c4, hK⟩ := hSw; have b8 : ww.cell? ⟨kb, 8, none⟩ = some (.string p.vl) := (by rw [cell_of_row ww kb 8 _ _ _ hK]; rfl); go_simp; try with_reducible rfl)
      refine tkW 9 (some 34) (v := ?_) ?_ hHeld ?_
      rotate_left
      · (intro ww _; go_simp; try with_reducible rfl)
      refine wpAnyH_ready (rs := [10]) (by kernel_rfl) (by simp) ?_
      refine AllReadyH.cons (o := ⟨none, _, _, _, _, _⟩) rfl (fun K hK => ?_) AllReadyH.nil
      obtain ⟨g9, cp9, ev9, _, hc9, hz9⟩ := OwnE.cells atCells_len (HP.out.at_ c HC.out.1) Hi.out.1
      rw [Hev.out] at ev9
      injection ev9 with e9 e8 e7
      injection e9 with e9
      injection e9 with e9
      subst e9
      have pc := hc9 1 _ rfl
      have zc := hz9 (i * 2 + 1)
      have hM := HP.out.setV HC.out.1 Hi.out Hev.out p.vl
      have HM := hide9 hM
      have hS9 : (fun W' => W'.cell? ⟨c, 4, none⟩ = some (.slice (some ⟨gb, 0, none⟩) (g.o c).at_.length cap) ∧ W'.heap[kb]? = some (.cells #[.int .i64 p.kd, .int .i64 p.k.1, .int .i64 p.k.2, .int .i64 p.pa.1, .int .i64 p.pa.2, .int .i64 p.af.1, .int .i64 p.af.2, .string p.nm, .string p.vl] 25)) (Us69u0.setCell ⟨gb, i * 2 + 1, none⟩ (.string p.vl)) := ⟨(show (Us69u0.setCell ⟨gb, i * 2 + 1, none⟩ (.string p.vl)).cell? ⟨c, 4, none⟩ = Us69u0.cell? ⟨c, 4, none⟩ from World.cell?_of_block (RowKit.Below.heap_setCell _ _ _ _ (fun (e : c = gb) => HN.out.1 e.symm))).trans (by rw [cell_of_row Us69u0 c 4 _ _ _ (HP.out.mem c HC.out.1), ← Hev.out]; rfl), (RowKit.Below.heap_setCell _ _ _ _ HN.out.2).trans HK.out⟩
      clear hM hc9 hz9 e8 e7
      go_simp
      refine hK.out _ _ (hS9) (fun hHeld2 => ?_)
      clear hK K hHeld
      have hHeld := hHeld2
      clear hHeld2
      (try simp only [Act.put, List.setIfInBounds_toArray, List.set_cons_zero, List.set_cons_succ])
      clear pc zc hS9
      refine wpAnyH_done (by kernel_rfl) ?_ _
      clear hHeld
      go_wp2
      (try rw [Exit.noGoto_ret])
      go_ret
      refine ⟨?_, HB.out.trans HM.out.2⟩
      have e1 : (stepF p (g.o c)).1 = 0 := (by unfold stepF; rw [if_neg (by rw [HKd.out]; decide), if_neg (by rw [HKd.out]; decide), if_pos HKd.out, if_neg (fun e => by rw [HHas.out] at e; cases e.1)])
      have e2 : (stepF p (g.o c)).2 = { g.o c with at_ := (g.o c).at_.set i (p.nm, p.vl) } := (by unfold stepF; rw [if_neg (by rw [HKd.out]; decide), if_neg (by rw [HKd.out]; decide), if_pos HKd.out, if_neg (fun e => by rw [HHas.out] at e; cases e.1), Hset.out])
      rw [HSt0.out, e1, if_neg (by decide)]
      refine StpP.ok ⟨HM.out.1, ?_⟩
      have h9 := HPp.out.with_ (n := c) (k := p.k) (F := fun f => (stepF p f).2) HC.out HCk.out (stepF_k p) g.av
      (try dsimp only at h9)
      rw [e2] at h9
      simp only [withL] at h9 ⊢
      exact h9

end Go.Proofs.Ytccpljllgpabnaa

namespace Go.Proofs.Ytccpljllgpabnaa
open Go.RowKit
set_option linter.unusedVariables false

theorem apply_all (G G2 : Nat → Prop) (t : VT) (v lv : Value) (L : List Pa) (w : World) (hv : VIs G w v t) (hl : LsE paCells 9 G2 w lv L) (hsz : t.sz ≤ 1048576) (hbn : BnA t) (hnm : ∀ p ∈ L, p.nm.size ≤ 281474976710656) :
    Calls Try.prog 13 #[v, lv] w fun e w' => ApP t L w e w' :=
  apply_any G G2 t v lv L w hv hl hsz hbn hnm fun p _ _ => ⟨fun e B wb bm bh top X g D T H w hm hp ho => setAttr_s p w hm hp ho e, fun e B wb bm bh top X g D T H w hm hp ho => clearAttr_s p w hm hp ho e⟩

end Go.Proofs.Ytccpljllgpabnaa

namespace Go.Proofs.Ytccpljllgpabnaa
open Go.RowKit
set_option linter.unusedVariables false
set_option linter.unusedSimpArgs false

theorem bnA_of {t : VT} {H : List VT} (h : OkB t H) : BnA t := fun x hx => bnT_of (h.ok _ (List.mem_append_left _ (by rw [recV_flT]; exact List.mem_map.2 ⟨x.2, by rw [← flatD_snd t 0]; exact List.mem_map.2 ⟨x, hx, rfl⟩, rfl⟩)))
theorem OkB.szle {t : VT} (h : OkB t []) : t.sz ≤ 1048576 := by have := h.sz; simp [szs] at this; omega
set_option maxRecDepth 100000 in
set_option maxHeartbeats 4000000 in
theorem light_any (G : Nat → Prop) {G2 : Nat → Prop} (t : VT) (v lv : Value) (L : List Pa) (w : World) (hv : VIs G w v t) (hl : LsE paCells 9 G2 w lv L) (hsz : t.sz ≤ 1048576) : Calls Try.prog 11 #[v, lv] w fun e w' => ∃ b, e = .returned (.bool b) ∧ Below w.heap.size w w' := by
  obtain ⟨aa, ca, ak, ck, e1, fd⟩ := hv.form
  subst e1
  obtain ⟨a1, c1, e2⟩ := LsE.form hl
  subst e2
  have ht : (w.alloc (.cells #[.int .i64 t.k.1, .int .i64 t.k.2, .string t.tg, .string t.tx, .slice aa t.at_.length ca, .slice ak t.ks.length ck] 33)).heap[w.heap.size]? = some (.cells #[.int .i64 t.k.1, .int .i64 t.k.2, .string t.tg, .string t.tx, .slice aa t.at_.length ca, .slice ak t.ks.length ck] 33) := heap_alloc_new _ _
  have hb0 : Below w.heap.size w (w.alloc (.cells #[.int .i64 t.k.1, .int .i64 t.k.2, .string t.tg, .string t.tx, .slice aa t.at_.length ca, .slice ak t.ks.length ck] 33)) := (Below.refl _ _).alloc (Nat.le_refl _) _
  obtain ⟨p0, p1, p2, p3, p4, p5⟩ := row6 ht
  obtain ⟨W0, eW0⟩ : ∃ X, X = (w.alloc (.cells #[.int .i64 t.k.1, .int .i64 t.k.2, .string t.tg, .string t.tx, .slice aa t.at_.length ca, .slice ak t.ks.length ck] 33)) := ⟨_, rfl⟩
  have HE := hide9 eW0
  rw [← eW0] at ht hb0
  have HT := hide9 ht
  have HB := hide9 hb0
  have HFd := hide9 (fd.below hb0)
  have HL := hide9 (hl.below hb0)
  clear hv hl fd ht hb0 eW0
  by_cases h2 : L.length ≤ 200
  · have k1 : (L.length : Int) ≤ 200 := by omega
    clear h2
    go_enter Try.func11, Try.ntmps11
    go_wp2_with fail
    rw [← HE.out]
    clear HE p0 p1 p2 p3 p4 p5
    refine (flatF_any G t _ _ (VIs.of HFd.out) hsz).mono ?_
    rintro e w1 ⟨v1, E, rfl, h1, h3, h4, hb⟩
    obtain ⟨a5, c5, e5⟩ := OwnE.form h1
    subst e5
    replace HB : Hid (Below w.heap.size w w1) := HB.out.trans (hb.mono HB.out.size)
    clear h1 h3 h4 hb
    go_wp2
    (try rw [Exit.noGoto_ret])
    go_ret
    exact ⟨_, rfl, HB.out⟩
  · have k1 : ¬ (L.length : Int) ≤ 200 := by omega
    clear h2
    go_enter Try.func11, Try.ntmps11
    go_wp2
    (try rw [Exit.noGoto_ret])
    go_ret
    have HBl := HB.out
    rw [HE.out] at HBl
    first | exact ⟨.inl rfl, HBl⟩ | exact ⟨false, rfl, HBl⟩

set_option maxRecDepth 100000 in
set_option maxHeartbeats 8000000 in
theorem patchRight_any (G : Nat → Prop) {G2 : Nat → Prop} (t : VT) (v lv : Value) (L : List Pa) (w : World) (hv : VIs G w v t) (hl : LsE paCells 9 G2 w lv L) (hbn : BnA t) (hsz : t.sz ≤ 1048576) (hnm : ∀ p ∈ L, p.nm.size ≤ 281474976710656) : Calls Try.prog 6 #[v, lv] w fun e w' => e = .returned (.bool true) ∧ Below w.heap.size w w' := by
  obtain ⟨aa, ca, ak, ck, e1, fd⟩ := hv.form
  subst e1
  obtain ⟨a1, c1, e2⟩ := LsE.form hl
  subst e2
  have ht : (w.alloc (.cells #[.int .i64 t.k.1, .int .i64 t.k.2, .string t.tg, .string t.tx, .slice aa t.at_.length ca, .slice ak t.ks.length ck] 33)).heap[w.heap.size]? = some (.cells #[.int .i64 t.k.1, .int .i64 t.k.2, .string t.tg, .string t.tx, .slice aa t.at_.length ca, .slice ak t.ks.length ck] 33) := heap_alloc_new _ _
  have hb0 : Below w.heap.size w (w.alloc (.cells #[.int .i64 t.k.1, .int .i64 t.k.2, .string t.tg, .string t.tx, .slice aa t.at_.length ca, .slice ak t.ks.length ck] 33)) := (Below.refl _ _).alloc (Nat.le_refl _) _
  obtain ⟨p0, p1, p2, p3, p4, p5⟩ := row6 ht
  obtain ⟨W0, eW0⟩ : ∃ X, X = (w.alloc (.cells #[.int .i64 t.k.1, .int .i64 t.k.2, .string t.tg, .string t.tx, .slice aa t.at_.length ca, .slice ak t.ks.length ck] 33)) := ⟨_, rfl⟩
  have HE := hide9 eW0
  rw [← eW0] at ht hb0
  have HT := hide9 ht
  have HB := hide9 hb0
  have HFd := hide9 (fd.below hb0)
  have HL := hide9 (hl.below hb0)
  clear hv hl fd ht hb0 eW0
  go_enter Try.func6, Try.ntmps6
  go_wp2_with fail
  rw [← HE.out]
  clear HE p0 p1 p2 p3 p4 p5
  refine (light_any G t _ _ L _ (VIs.of HFd.out) HL.out hsz).mono ?_
  rintro e w1 ⟨b, rfl, hb⟩
  replace HT : Hid (w1.heap[w.heap.size]? = some (.cells #[.int .i64 t.k.1, .int .i64 t.k.2, .string t.tg, .string t.tx, .slice aa t.at_.length ca, .slice ak t.ks.length ck] 33)) := (hb.block _ (row_lt HT.out)).trans HT.out
  replace HFd := hide9 (HFd.out.below hb)
  replace HL := hide9 (HL.out.below hb)
  replace HB : Hid (Below w.heap.size w w1) := HB.out.trans (hb.mono HB.out.size)
  clear hb
  cases b with
  | false =>
    go_wp2_with fail
    refine (awake_pa _).mono ?_
    rintro e wz ⟨rfl, hb⟩
    replace HB : Hid (Below w.heap.size w wz) := HB.out.trans (hb.mono HB.out.size)
    clear hb
    go_wp2
    (try rw [Exit.noGoto_ret])
    go_ret
    exact ⟨rfl, HB.out⟩
  | true =>
    obtain ⟨p0, p1, p2, p3, p4, p5⟩ := row6 HT.out
    go_wp2_with fail
    clear p0 p1 p2 p3 p4 p5
    refine (apply_all G _ t _ _ L _ (VIs.of HFd.out) HL.out hsz hbn hnm).mono ?_
    rintro e w3 ⟨v3, rfl, hv3, hb⟩
    replace HT : Hid (w3.heap[w.heap.size]? = some (.cells #[.int .i64 t.k.1, .int .i64 t.k.2, .string t.tg, .string t.tx, .slice aa t.at_.length ca, .slice ak t.ks.length ck] 33)) := (hb.block _ (row_lt HT.out)).trans HT.out
    replace HFd := hide9 (HFd.out.below hb)
    replace HL := hide9 (HL.out.below hb)
    replace HB : Hid (Below w.heap.size w w3) := HB.out.trans (hb.mono HB.out.size)
    clear hb
    obtain ⟨n, en⟩ : ∃ n, n = (appR t L).2.1 := ⟨_, rfl⟩
    obtain ⟨c, ec⟩ : ∃ c, c = (appR t L).2.2 := ⟨_, rfl⟩
    obtain ⟨u, eu⟩ : ∃ u, u = (appR t L).1 := ⟨_, rfl⟩
    have HA : Hid (n = (appR t L).2.1 ∧ c = (appR t L).2.2 ∧ u = (appR t L).1) := ⟨en, ec, eu⟩
    rw [← eu] at hv3
    (try rw [← en])
    (try rw [← ec])
    clear en ec eu
    obtain ⟨ua, uc, uk, ud, e1, fu⟩ := hv3.form
    subst e1
    have HFu := hide9 fu
    clear hv3 fu
    have hz : (w3.alloc (.cells #[.int .i64 0, .int .i64 0, .string ⟨#[]⟩, .string ⟨#[]⟩, .slice none 0 0, .slice none 0 0] 33)).heap[w3.heap.size]? = some (.cells #[.int .i64 0, .int .i64 0, .string ⟨#[]⟩, .string ⟨#[]⟩, .slice none 0 0, .slice none 0 0] 33) := heap_alloc_new _ _
    have Hz := hide9 hz
    obtain ⟨W5, eW5⟩ : ∃ X, X = (w3.alloc (.cells #[.int .i64 0, .int .i64 0, .string ⟨#[]⟩, .string ⟨#[]⟩, .slice none 0 0, .slice none 0 0] 33)).setRow w3.heap.size #[.int .i64 u.k.1, .int .i64 u.k.2, .string u.tg, .string u.tx, .slice ua u.at_.length uc, .slice uk u.ks.length ud] := ⟨_, rfl⟩
    have hb : Below w3.heap.size w3 W5 := (by rw [eW5]; exact ((Below.refl _ _).alloc (Nat.le_refl _) _).grown (grown_setRow _ _ _) (by simp) (fun k e => by cases e; exact Nat.le_refl _))
    obtain ⟨ub, eub⟩ : ∃ n, n = w3.heap.size := ⟨_, rfl⟩
    have HU : Hid (W5.heap[ub]? = some (.cells #[.int .i64 u.k.1, .int .i64 u.k.2, .string u.tg, .string u.tx, .slice ua u.at_.length uc, .slice uk u.ks.length ud] 33)) := hide9 (by rw [eW5, eub]; exact setRow_same hz)
    have HE5 := hide9 (And.intro eW5 eub)
    replace HFu := hide9 (HFu.out.below hb)
    clear hz eW5 eub
    replace HT : Hid (W5.heap[w.heap.size]? = some (.cells #[.int .i64 t.k.1, .int .i64 t.k.2, .string t.tg, .string t.tx, .slice aa t.at_.length ca, .slice ak t.ks.length ck] 33)) := (hb.block _ (row_lt HT.out)).trans HT.out
    replace HFd := hide9 (HFd.out.below hb)
    replace HL := hide9 (HL.out.below hb)
    replace HB : Hid (Below w.heap.size w W5) := HB.out.trans (hb.mono HB.out.size)
    clear hb
    go_upto_region 4 with (refine wpList_store_row rfl 33 (.tmp 5) (.tmp 17) rfl w3.heap.size 33 #[.int .i64 0, .int .i64 0, .string ⟨#[]⟩, .string ⟨#[]⟩, .slice none 0 0, .slice none 0 0] #[.int .i64 u.k.1, .int .i64 u.k.2, .string u.tg, .string u.tx, .slice ua u.at_.length uc, .slice uk u.ks.length ud] rfl rfl Hz.out sizeVN rfl (by simp [Value.oneCell']) ?_)
    rw [← HE5.out.1, ← HE5.out.2]
    clear HE5 Hz
    by_cases hc : c = 0
    · subst hc
      obtain ⟨hok, hk, hn⟩ := appR_ok HA.out.2.1.symm
      rw [← HA.out.2.2] at hok hk
      rw [← HA.out.1] at hn
      subst hn
      have HOk := hide9 hok
      clear HA
      obtain ⟨q0, q1, q2, q3, q4, q5⟩ := row6 HU.out
      obtain ⟨p0, p1, p2, p3, p4, p5⟩ := row6 HT.out
      have Hk := hide9 hk
      clear hok hk
      go_wp2_with fail
      clear q0 q1 q2 q3 q4 q5 p0 p1 p2 p3 p4 p5
      refine (refCheck_any _ u _ _ (VIs.of HFu.out) HOk.out.szle (bnA_of HOk.out)).mono ?_
      rintro e w6 ⟨rfl, hb⟩
      rw [(chkT_iff u).2 HOk.out]
      replace HU : Hid (w6.heap[ub]? = some (.cells #[.int .i64 u.k.1, .int .i64 u.k.2, .string u.tg, .string u.tx, .slice ua u.at_.length uc, .slice uk u.ks.length ud] 33)) := (hb.block _ (row_lt HU.out)).trans HU.out
      replace HT : Hid (w6.heap[w.heap.size]? = some (.cells #[.int .i64 t.k.1, .int .i64 t.k.2, .string t.tg, .string t.tx, .slice aa t.at_.length ca, .slice ak t.ks.length ck] 33)) := (hb.block _ (row_lt HT.out)).trans HT.out
      replace HFd := hide9 (HFd.out.below hb)
      replace HL := hide9 (HL.out.below hb)
      replace HB : Hid (Below w.heap.size w w6) := HB.out.trans (hb.mono HB.out.size)
      clear hb
      obtain ⟨q0, q1, q2, q3, q4, q5⟩ := row6 HU.out
      obtain ⟨p0, p1, p2, p3, p4, p5⟩ := row6 HT.out
      rw [Hk.out] at q0 q1
      have hst : ∀ w : World, (binOp .eql 23 (.agg #[.int .i64 t.k.1, .int .i64 t.k.2]) (.agg #[.int .i64 t.k.1, .int .i64 t.k.2])).run Try.prog w = .ok (.bool true) w := fun w => by rw [eqlSt]; simp
      go_wp2_with fail
      refine (awake_pa _).mono ?_
      rintro e wz ⟨rfl, hb⟩
      replace HB : Hid (Below w.heap.size w wz) := HB.out.trans (hb.mono HB.out.size)
      clear hb
      go_wp2
      (try rw [Exit.noGoto_ret])
      go_ret
      exact ⟨rfl, HB.out⟩
    · have hne : (appR t L).2.2 ≠ 0 := HA.out.2.1 ▸ hc
      obtain ⟨h1, h2⟩ := appR_err hne
      rw [← HA.out.2.2] at h1
      rw [← HA.out.1] at h2
      subst h1
      clear HA hne
      obtain ⟨q0, q1, q2, q3, q4, q5⟩ := row6 HU.out
      have k0 : (0 : Int) ≤ (n : Int) := by omega
      have k1 : (n : Int) ≤ (L.length : Int) := by omega
      have k3 : (c != 0) = true := by simpa using hc
      clear h2 hc
      go_wp2_with fail
      refine (refSame_any _ (fun _ => True) tZe tZe _ _ _ (VIs.of HFu.out) ⟨_, _, rfl, LsE.nil _ _ _, by simp [tZe, VT.at_], none, 0, rfl, Nat.le_refl _, by simp [tZe, VT.ks], .inl rfl⟩).mono ?_
      rintro e w6 ⟨rfl, hb⟩
      rw [eqV_self]
      replace HB : Hid (Below w.heap.size w w6) := HB.out.trans (hb.mono HB.out.size)
      clear hb q0 q1 q2 q3 q4 q5
      go_wp2_with fail
      refine (awake_pa _).mono ?_
      rintro e wz ⟨rfl, hb⟩
      replace HB : Hid (Below w.heap.size w wz) := HB.out.trans (hb.mono HB.out.size)
      clear hb
      go_wp2
      (try rw [Exit.noGoto_ret])
      go_ret
      exact ⟨rfl, HB.out⟩
theorem patchRight_walk (v : Value) (t : VT) (lv : Value) (L : List Pa) (w : World) (h : VIs (fun _ => True) w v t) (hbn : BnA t) (hsz : t.sz ≤ 1048576) (hl : IsPp w lv L) : Calls Try.prog 6 #[v, lv] w fun e w' => e = .returned (.bool true) ∧ Below w.heap.size w w' := patchRight_any _ t v lv L w h hl.1 hbn hsz fun p hp => Nat.le_trans (hl.2 p hp).1 (by decide)

end Go.Proofs.Ytccpljllgpabnaa

namespace Go.Proofs.Ytccpljllgpabnaa
open Go.RowKit
set_option linter.unusedVariables false
set_option linter.unusedSimpArgs false

theorem infoPaJ : (Try.prog.info? 25).map (fun i => (i.zero, i.size, i.bytes)) = some (some (.agg #[.int .i64 0, .int .i64 0, .int .i64 0, .int .i64 0, .int .i64 0, .int .i64 0, .int .i64 0, .string ⟨#[]⟩, .string ⟨#[]⟩]), 9, 88) := by kernel_rfl
theorem run_append0 {P : Program} {w : World} (base : Nat) (t ty e : TypeId) (i : TypeInfo) (size : Nat) (ht : P.underlying t = some (.slice e)) (hi : P.info? e = some i)
    (v : Value) (n : Nat) (xs : List Value) (hown : w.ownsRow base e size v n xs) (c : Nat) :
    (Builtin.append_ #[t, t] ty #[v, .slice none 0 c]).run P w = .ok v w := by
  rcases hown.2 with ⟨rfl, rfl⟩ | ⟨g, cap, cur, rfl, _, _, hnc, _⟩
  · simp [Builtin.append_, run_underlying ht, sizeOf, typeInfo, hi, Builtin.lenOf, Builtin.firstCells]
  · simp [Builtin.append_, run_underlying ht, sizeOf, typeInfo, hi, Builtin.lenOf, Builtin.firstCells, hnc, storeCells]
theorem pa_one (D : List Pa) : ∀ u ∈ flatE paCells D, u.oneCell' = true := fun u hu => by
  obtain ⟨p, _, hp⟩ := List.mem_flatMap.1 hu
  simp [paCells] at hp
  rcases hp with rfl | rfl | rfl | rfl | rfl | rfl | rfl | rfl | rfl <;> rfl
set_option maxHeartbeats 1000000 in
theorem wpList_appPa {G : Nat → Prop} {ops : Array Oper} {rest : List Oper} {o : Oper} {a : Act} {w : World} {Q : Exit → Act → World → Prop} (hgd : o.guard = none) (s x : Operand)
    (ho : o.op = .call { callee := .builtin .append, args := #[s, x], argTypes := #[34, 34] }) (base : Nat) (v xv : Value) (D E : List Pa) (hs : a.eval s = v) (hown : OwnE paCells 9 25 base w v D) (hx : a.eval x = xv) (hE : LsE paCells 9 G w xv E) (hl : D.length + E.length ≤ 1048576) (hbase : base ≤ w.heap.size)
    (h : ∀ v' w', OwnE paCells 9 25 base w' v' (D ++ E) → w.grownBy w' v.ownBlock → wpList Try.prog ops Q rest (a.put o.dst v') w') :
    wpList Try.prog ops Q (o :: rest) a w := by
  obtain ⟨i0, hi, hz0, hz1, hz2⟩ := info_parts infoPaJ
  obtain ⟨a1, c1, rfl⟩ := hE.form
  cases a1 with
  | none =>
    obtain rfl : E = [] := (by obtain ⟨a, c, e, _, _, r⟩ := hE; rcases r with q | ⟨b, o, q, _⟩; exact q; rw [q] at e; cases e)
    refine wpList_plain hgd fun K hK => ?_
    have hr := fun ty => run_append0 base 34 ty 25 i0 9 Try.underlying34 hi v D.length (flatE paCells D) hown c1
    unfold Oper.wp execOp
    simp only [ho, resolve, invoke, builtin, Sem.run_bind, Sem.run_pure, Result.andThen_ok, List.map_toArray, List.map_cons, List.map_nil, hs, hx, List.length_nil, hr]
    exact hK _ _ (h _ _ (by rw [List.append_nil]; exact hown) ⟨rfl, rfl, rfl, Nat.le_refl _, fun _ _ _ => rfl⟩)
  | some ad =>
    exact wpList_append_own_at w hgd s x 34 ho base 25 i0 (.agg #[.int .i64 0, .int .i64 0, .int .i64 0, .int .i64 0, .int .i64 0, .int .i64 0, .int .i64 0, .string ⟨#[]⟩, .string ⟨#[]⟩]) 9 88 Try.underlying34 hi hz0 hz1 hz2 rfl (by decide) v D.length (flatE paCells D) hs hown ad E.length c1 (flatE paCells E) hx (flatE_length paCells_len E) (fun j u hj => (LsE.flat (by decide) paCells_len hE j u hj).1) (pa_one E) (by unfold maxLen; omega) (by omega) hbase (fun v' w' h1 h2 _ _ => h v' w' (by unfold OwnE; rw [flatE_append, List.length_append]; exact h1) h2)
def LgP (L : List Pa) (w : World) (e : Ending) (w' : World) : Prop := ∃ b, e = .returned (.bool b) ∧ Below w.heap.size w w' ∧ (b = true → L.length ≤ 200)
set_option maxRecDepth 100000 in
set_option maxHeartbeats 4000000 in
theorem lightJ_any (G : Nat → Prop) {G2 : Nat → Prop} (t : VT) (v lv : Value) (L : List Pa) (w : World) (hv : VIs G w v t) (hl : LsE paCells 9 G2 w lv L) (hsz : t.sz ≤ 1048576) : Calls Try.prog 11 #[v, lv] w fun e w' => LgP L w e w' := by
  obtain ⟨aa, ca, ak, ck, e1, fd⟩ := hv.form
  subst e1
  obtain ⟨a1, c1, e2⟩ := LsE.form hl
  subst e2
  have ht : (w.alloc (.cells #[.int .i64 t.k.1, .int .i64 t.k.2, .string t.tg, .string t.tx, .slice aa t.at_.length ca, .slice ak t.ks.length ck] 33)).heap[w.heap.size]? = some (.cells #[.int .i64 t.k.1, .int .i64 t.k.2, .string t.tg, .string t.tx, .slice aa t.at_.length ca, .slice ak t.ks.length ck] 33) := heap_alloc_new _ _
  have hb0 : Below w.heap.size w (w.alloc (.cells #[.int .i64 t.k.1, .int .i64 t.k.2, .string t.tg, .string t.tx, .slice aa t.at_.length ca, .slice ak t.ks.length ck] 33)) := (Below.refl _ _).alloc (Nat.le_refl _) _
  obtain ⟨p0, p1, p2, p3, p4, p5⟩ := row6 ht
  obtain ⟨W0, eW0⟩ : ∃ X, X = (w.alloc (.cells #[.int .i64 t.k.1, .int .i64 t.k.2, .string t.tg, .string t.tx, .slice aa t.at_.length ca, .slice ak t.ks.length ck] 33)) := ⟨_, rfl⟩
  have HE := hide9 eW0
  rw [← eW0] at ht hb0
  have HT := hide9 ht
  have HB := hide9 hb0
  have HFd := hide9 (fd.below hb0)
  have HL := hide9 (hl.below hb0)
  clear hv hl fd ht hb0 eW0
  by_cases h2 : L.length ≤ 200
  · have k1 : (L.length : Int) ≤ 200 := by omega
    have h2 := hide9 h2
    go_enter Try.func11, Try.ntmps11
    go_wp2_with fail
    rw [← HE.out]
    clear HE p0 p1 p2 p3 p4 p5
    refine (flatF_any G t _ _ (VIs.of HFd.out) hsz).mono ?_
    rintro e w1 ⟨v1, E, rfl, h1, h3, h4, hb⟩
    obtain ⟨a5, c5, e5⟩ := OwnE.form h1
    subst e5
    replace HB : Hid (Below w.heap.size w w1) := HB.out.trans (hb.mono HB.out.size)
    clear h1 h3 h4 hb
    go_wp2
    (try rw [Exit.noGoto_ret])
    go_ret
    exact ⟨_, rfl, HB.out, fun _ => h2.out⟩
  · have k1 : ¬ (L.length : Int) ≤ 200 := by omega
    have h2 := hide9 h2
    go_enter Try.func11, Try.ntmps11
    go_wp2
    (try rw [Exit.noGoto_ret])
    go_ret
    have HBl := HB.out
    rw [HE.out] at HBl
    exact ⟨false, rfl, HBl, fun e => absurd e (by decide)⟩

set_option maxRecDepth 100000 in
set_option maxHeartbeats 8000000 in
theorem patchJoins_any (G : Nat → Prop) {G2 G3 : Nat → Prop} (t : VT) (v lv mv : Value) (L M : List Pa) (w : World) (hv : VIs G w v t) (hl : LsE paCells 9 G2 w lv L) (hm : LsE paCells 9 G3 w mv M) (hbn : BnA t) (hsz : t.sz ≤ 1048576) (hnm : ∀ p ∈ L ++ M, p.nm.size ≤ 281474976710656) : Calls Try.prog 7 #[v, lv, mv] w fun e w' => e = .returned (.bool true) ∧ Below w.heap.size w w' := by
  obtain ⟨aa, ca, ak, ck, e1, fd⟩ := hv.form
  subst e1
  obtain ⟨a1, c1, e2⟩ := LsE.form hl
  subst e2
  obtain ⟨a2, c2, e3⟩ := LsE.form hm
  subst e3
  have ht : (w.alloc (.cells #[.int .i64 t.k.1, .int .i64 t.k.2, .string t.tg, .string t.tx, .slice aa t.at_.length ca, .slice ak t.ks.length ck] 33)).heap[w.heap.size]? = some (.cells #[.int .i64 t.k.1, .int .i64 t.k.2, .string t.tg, .string t.tx, .slice aa t.at_.length ca, .slice ak t.ks.length ck] 33) := heap_alloc_new _ _
  have hb0 : Below w.heap.size w (w.alloc (.cells #[.int .i64 t.k.1, .int .i64 t.k.2, .string t.tg, .string t.tx, .slice aa t.at_.length ca, .slice ak t.ks.length ck] 33)) := (Below.refl _ _).alloc (Nat.le_refl _) _
  obtain ⟨p0, p1, p2, p3, p4, p5⟩ := row6 ht
  obtain ⟨W0, eW0⟩ : ∃ X, X = (w.alloc (.cells #[.int .i64 t.k.1, .int .i64 t.k.2, .string t.tg, .string t.tx, .slice aa t.at_.length ca, .slice ak t.ks.length ck] 33)) := ⟨_, rfl⟩
  have HE := hide9 eW0
  rw [← eW0] at ht hb0
  have HT := hide9 ht
  have HB := hide9 hb0
  have HFd := hide9 (fd.below hb0)
  have HL := hide9 (hl.below hb0)
  have HM := hide9 (hm.below hb0)
  have Hbn := hide9 hbn
  have Hnm := hide9 hnm
  clear hv hl hm fd ht hb0 eW0 hbn hnm
  go_enter Try.func7, Try.ntmps7
  go_wp2_with fail
  rw [← HE.out]
  clear HE p0 p1 p2 p3 p4 p5
  refine (lightJ_any G t _ _ L _ (VIs.of HFd.out) HL.out hsz).mono ?_
  rintro e w1 ⟨b, rfl, hb, hb200⟩
  have HLl := hide9 hb200
  clear hb200
  replace HT : Hid (w1.heap[w.heap.size]? = some (.cells #[.int .i64 t.k.1, .int .i64 t.k.2, .string t.tg, .string t.tx, .slice aa t.at_.length ca, .slice ak t.ks.length ck] 33)) := (hb.block _ (row_lt HT.out)).trans HT.out
  replace HFd := hide9 (HFd.out.below hb)
  replace HL := hide9 (HL.out.below hb)
  replace HB : Hid (Below w.heap.size w w1) := HB.out.trans (hb.mono HB.out.size)
  replace HM := hide9 (HM.out.below hb)
  clear hb
  cases b with
  | false =>
    go_wp2_with fail
    refine (awake_pa _).mono ?_
    rintro e wz ⟨rfl, hb⟩
    replace HB : Hid (Below w.heap.size w wz) := HB.out.trans (hb.mono HB.out.size)
    clear hb
    go_wp2
    (try rw [Exit.noGoto_ret])
    go_ret
    exact ⟨rfl, HB.out⟩
  | true =>
    have hl200 := HLl.out rfl
    clear HLl
    by_cases hm200 : 200 < M.length
    · have k1 : (200 : Int) < (M.length : Int) := by omega
      clear hm200 hl200
      go_wp2_with fail
      refine (awake_pa _).mono ?_
      rintro e wz ⟨rfl, hb⟩
      replace HB : Hid (Below w.heap.size w wz) := HB.out.trans (hb.mono HB.out.size)
      clear hb
      go_wp2
      (try rw [Exit.noGoto_ret])
      go_ret
      exact ⟨rfl, HB.out⟩
    · have k1 : ¬ (200 : Int) < (M.length : Int) := by omega
      have Hsm : Hid (L.length ≤ 200 ∧ M.length ≤ 200) := ⟨hl200, by omega⟩
      clear hm200 hl200
      obtain ⟨p0, p1, p2, p3, p4, p5⟩ := row6 HT.out
      go_wp2_with fail
      clear p0 p1 p2 p3 p4 p5 k1
      refine (apply_all G _ t _ _ L _ (VIs.of HFd.out) HL.out hsz Hbn.out (fun p hp => Hnm.out p (List.mem_append_left _ hp))).mono ?_
      rintro e w3 ⟨v3, rfl, hv3, hb⟩
      replace HT : Hid (w3.heap[w.heap.size]? = some (.cells #[.int .i64 t.k.1, .int .i64 t.k.2, .string t.tg, .string t.tx, .slice aa t.at_.length ca, .slice ak t.ks.length ck] 33)) := (hb.block _ (row_lt HT.out)).trans HT.out
      replace HFd := hide9 (HFd.out.below hb)
      replace HL := hide9 (HL.out.below hb)
      replace HB : Hid (Below w.heap.size w w3) := HB.out.trans (hb.mono HB.out.size)
      replace HM := hide9 (HM.out.below hb)
      clear hb
      obtain ⟨n, en⟩ : ∃ zz, zz = (appR t L).2.1 := ⟨_, rfl⟩
      obtain ⟨c, ec⟩ : ∃ zz, zz = (appR t L).2.2 := ⟨_, rfl⟩
      obtain ⟨u, eu⟩ : ∃ zz, zz = (appR t L).1 := ⟨_, rfl⟩
      have HA : Hid (n = (appR t L).2.1 ∧ c = (appR t L).2.2 ∧ u = (appR t L).1) := ⟨en, ec, eu⟩
      rw [← eu] at hv3
      (try rw [← en])
      (try rw [← ec])
      clear en ec eu
      obtain ⟨ua, uc, uk, ud, e1, fu⟩ := hv3.form
      subst e1
      have HFu := hide9 fu
      clear hv3 fu
      have hz : (w3.alloc (.cells #[.int .i64 0, .int .i64 0, .string ⟨#[]⟩, .string ⟨#[]⟩, .slice none 0 0, .slice none 0 0] 33)).heap[w3.heap.size]? = some (.cells #[.int .i64 0, .int .i64 0, .string ⟨#[]⟩, .string ⟨#[]⟩, .slice none 0 0, .slice none 0 0] 33) := heap_alloc_new _ _
      have Hz := hide9 hz
      obtain ⟨W5, eW5⟩ : ∃ X, X = (w3.alloc (.cells #[.int .i64 0, .int .i64 0, .string ⟨#[]⟩, .string ⟨#[]⟩, .slice none 0 0, .slice none 0 0] 33)).setRow w3.heap.size #[.int .i64 u.k.1, .int .i64 u.k.2, .string u.tg, .string u.tx, .slice ua u.at_.length uc, .slice uk u.ks.length ud] := ⟨_, rfl⟩
      have hb : Below w3.heap.size w3 W5 := (by rw [eW5]; exact ((Below.refl _ _).alloc (Nat.le_refl _) _).grown (grown_setRow _ _ _) (by simp) (fun k e => by cases e; exact Nat.le_refl _))
      obtain ⟨ub, eub⟩ : ∃ n, n = w3.heap.size := ⟨_, rfl⟩
      have Hub : Hid (W5.heap[ub]? = some (.cells #[.int .i64 u.k.1, .int .i64 u.k.2, .string u.tg, .string u.tx, .slice ua u.at_.length uc, .slice uk u.ks.length ud] 33)) := hide9 (by rw [eW5, eub]; exact setRow_same hz)
      have HE5 := hide9 (And.intro eW5 eub)
      replace HFu := hide9 (HFu.out.below hb)
      clear hz eW5 eub
      replace HT : Hid (W5.heap[w.heap.size]? = some (.cells #[.int .i64 t.k.1, .int .i64 t.k.2, .string t.tg, .string t.tx, .slice aa t.at_.length ca, .slice ak t.ks.length ck] 33)) := (hb.block _ (row_lt HT.out)).trans HT.out
      replace HFd := hide9 (HFd.out.below hb)
      replace HL := hide9 (HL.out.below hb)
      replace HB : Hid (Below w.heap.size w W5) := HB.out.trans (hb.mono HB.out.size)
      replace HM := hide9 (HM.out.below hb)
      clear hb
      go_upto_region 4 with (refine wpList_store_row rfl 33 (.tmp 7) (.tmp 31) rfl w3.heap.size 33 #[.int .i64 0, .int .i64 0, .string ⟨#[]⟩, .string ⟨#[]⟩, .slice none 0 0, .slice none 0 0] #[.int .i64 u.k.1, .int .i64 u.k.2, .string u.tg, .string u.tx, .slice ua u.at_.length uc, .slice uk u.ks.length ud] rfl rfl Hz.out sizeVN rfl (by simp [Value.oneCell']) ?_)
      rw [← HE5.out.1, ← HE5.out.2]
      clear HE5 Hz
      by_cases hc : c = 0
      · subst hc
        obtain ⟨hok, hk, hn⟩ := appR_ok HA.out.2.1.symm
        rw [← HA.out.2.2] at hok
        have HOk := hide9 hok
        clear hok hk hn
        obtain ⟨q0, q1, q2, q3, q4, q5⟩ := row6 Hub.out
        go_wp2_with fail
        clear q0 q1 q2 q3 q4 q5
        refine (apply_all _ _ u _ _ M _ (VIs.of HFu.out) HM.out HOk.out.szle (bnA_of HOk.out) (fun p hp => Hnm.out p (List.mem_append_right _ hp))).mono ?_
        rintro e w6 ⟨v6, rfl, hv6, hb⟩
        replace HFu := hide9 (HFu.out.below hb)
        replace Hub : Hid (w6.heap[ub]? = some (.cells #[.int .i64 u.k.1, .int .i64 u.k.2, .string u.tg, .string u.tx, .slice ua u.at_.length uc, .slice uk u.ks.length ud] 33)) := (hb.block _ (row_lt Hub.out)).trans Hub.out
        replace HT : Hid (w6.heap[w.heap.size]? = some (.cells #[.int .i64 t.k.1, .int .i64 t.k.2, .string t.tg, .string t.tx, .slice aa t.at_.length ca, .slice ak t.ks.length ck] 33)) := (hb.block _ (row_lt HT.out)).trans HT.out
        replace HFd := hide9 (HFd.out.below hb)
        replace HL := hide9 (HL.out.below hb)
        replace HB : Hid (Below w.heap.size w w6) := HB.out.trans (hb.mono HB.out.size)
        replace HM := hide9 (HM.out.below hb)
        clear hb
        obtain ⟨n2, en⟩ : ∃ zz, zz = (appR u M).2.1 := ⟨_, rfl⟩
        obtain ⟨f, ec⟩ : ∃ zz, zz = (appR u M).2.2 := ⟨_, rfl⟩
        obtain ⟨x, eu⟩ : ∃ zz, zz = (appR u M).1 := ⟨_, rfl⟩
        have HA2 : Hid (n2 = (appR u M).2.1 ∧ f = (appR u M).2.2 ∧ x = (appR u M).1) := ⟨en, ec, eu⟩
        rw [← eu] at hv6
        (try rw [← en])
        (try rw [← ec])
        clear en ec eu
        obtain ⟨xa, xc, xk, xd, e1, fu⟩ := hv6.form
        subst e1
        have HFx := hide9 fu
        clear hv6 fu
        have hz : (w6.alloc (.cells #[.int .i64 0, .int .i64 0, .string ⟨#[]⟩, .string ⟨#[]⟩, .slice none 0 0, .slice none 0 0] 33)).heap[w6.heap.size]? = some (.cells #[.int .i64 0, .int .i64 0, .string ⟨#[]⟩, .string ⟨#[]⟩, .slice none 0 0, .slice none 0 0] 33) := heap_alloc_new _ _
        have Hz := hide9 hz
        obtain ⟨W7, eW5⟩ : ∃ X, X = (w6.alloc (.cells #[.int .i64 0, .int .i64 0, .string ⟨#[]⟩, .string ⟨#[]⟩, .slice none 0 0, .slice none 0 0] 33)).setRow w6.heap.size #[.int .i64 x.k.1, .int .i64 x.k.2, .string x.tg, .string x.tx, .slice xa x.at_.length xc, .slice xk x.ks.length xd] := ⟨_, rfl⟩
        have hb : Below w6.heap.size w6 W7 := (by rw [eW5]; exact ((Below.refl _ _).alloc (Nat.le_refl _) _).grown (grown_setRow _ _ _) (by simp) (fun k e => by cases e; exact Nat.le_refl _))
        obtain ⟨xb, eub⟩ : ∃ n, n = w6.heap.size := ⟨_, rfl⟩
        have Hxb : Hid (W7.heap[xb]? = some (.cells #[.int .i64 x.k.1, .int .i64 x.k.2, .string x.tg, .string x.tx, .slice xa x.at_.length xc, .slice xk x.ks.length xd] 33)) := hide9 (by rw [eW5, eub]; exact setRow_same hz)
        have HE5 := hide9 (And.intro eW5 eub)
        replace HFx := hide9 (HFx.out.below hb)
        clear hz eW5 eub
        replace HT : Hid (W7.heap[w.heap.size]? = some (.cells #[.int .i64 t.k.1, .int .i64 t.k.2, .string t.tg, .string t.tx, .slice aa t.at_.length ca, .slice ak t.ks.length ck] 33)) := (hb.block _ (row_lt HT.out)).trans HT.out
        replace HFd := hide9 (HFd.out.below hb)
        replace HL := hide9 (HL.out.below hb)
        replace HB : Hid (Below w.heap.size w W7) := HB.out.trans (hb.mono HB.out.size)
        replace HM := hide9 (HM.out.below hb)
        replace HFu := hide9 (HFu.out.below hb)
        clear hb
        go_upto_region 7 with (refine wpList_store_row rfl 33 (.tmp 10) (.tmp 41) rfl w6.heap.size 33 #[.int .i64 0, .int .i64 0, .string ⟨#[]⟩, .string ⟨#[]⟩, .slice none 0 0, .slice none 0 0] #[.int .i64 x.k.1, .int .i64 x.k.2, .string x.tg, .string x.tx, .slice xa x.at_.length xc, .slice xk x.ks.length xd] rfl rfl Hz.out sizeVN rfl (by simp [Value.oneCell']) ?_)
        rw [← HE5.out.1, ← HE5.out.2]
        clear HE5 Hz
        have hbe : Below W7.heap.size W7 (W7.alloc (.cells #[] 25)) := (Below.refl _ _).alloc (Nat.le_refl _) _
        have HO0 : Hid (OwnE paCells 9 25 W7.heap.size (W7.alloc (.cells #[] 25)) (.slice (some ⟨W7.heap.size, 0, none⟩) 0 0) []) := World.ownsRow_made W7 #[] 0 (Nat.le_refl _) (by unfold maxLen; omega) (by simp)
        have HLe := hide9 (HL.out.below hbe)
        have HMe := hide9 (HM.out.below hbe)
        have Hbe := hide9 hbe
        clear hbe
        go_upto_region 8 with first | (at_builtin; refine wpList_appPa rfl _ _ rfl W7.heap.size _ _ [] L rfl HO0.out rfl HLe.out (by have := Hsm.out; simp; omega) Hbe.out.size ?_; intro v8 w8 ho8 hg8; have HO1 : Hid (OwnE paCells 9 25 W7.heap.size w8 v8 ([] ++ L)) := ho8; have Hb8 : Hid (Below W7.heap.size W7 w8) := Hbe.out.grown hg8 Hbe.out.size (fun k e => by cases e; exact Nat.le_refl _); clear ho8 hg8) | (at_builtin; refine wpList_appPa rfl _ _ rfl W7.heap.size _ _ ([] ++ L) M rfl HO1.out rfl (HM.out.below Hb8.out) (by have := Hsm.out; simp; omega) Hb8.out.size ?_; intro v9 w9 ho9 hg9; have HO2 : Hid (OwnE paCells 9 25 W7.heap.size w9 v9 ([] ++ L ++ M)) := ho9; have Hb9 : Hid (Below W7.heap.size W7 w9) := Hb8.out.grown hg9 Hb8.out.size (fun k e => (OwnE.lt HO1.out k e).1); clear ho9 hg9)
        clear HO0 HO1 HLe HMe Hbe Hb8
        have hb := Hb9.out
        clear Hb9
        have HO3 := HO2.out
        rw [List.nil_append] at HO3
        have HB3 : Hid (LsE paCells 9 (fun _ => True) w9 v9 (L ++ M)) := OwnE.lsE paCells_len HO3 (by have := Hsm.out; simp; omega) fun _ _ => trivial
        clear HO2 HO3
        obtain ⟨LM, eLM⟩ : ∃ X, X = L ++ M := ⟨_, rfl⟩
        rw [← eLM] at HB3
        have HNm : Hid (∀ p ∈ LM, p.nm.size ≤ 281474976710656) := fun p hp => Hnm.out p (eLM ▸ hp)
        have HLM := hide9 eLM
        clear eLM
        obtain ⟨a3, c3, e3⟩ := LsE.form HB3.out
        subst e3
        replace Hxb : Hid (w9.heap[xb]? = some (.cells #[.int .i64 x.k.1, .int .i64 x.k.2, .string x.tg, .string x.tx, .slice xa x.at_.length xc, .slice xk x.ks.length xd] 33)) := (hb.block _ (row_lt Hxb.out)).trans Hxb.out
        replace HFx := hide9 (HFx.out.below hb)
        clear HFu Hub
        replace HT : Hid (w9.heap[w.heap.size]? = some (.cells #[.int .i64 t.k.1, .int .i64 t.k.2, .string t.tg, .string t.tx, .slice aa t.at_.length ca, .slice ak t.ks.length ck] 33)) := (hb.block _ (row_lt HT.out)).trans HT.out
        replace HFd := hide9 (HFd.out.below hb)
        replace HL := hide9 (HL.out.below hb)
        replace HB : Hid (Below w.heap.size w w9) := HB.out.trans (hb.mono HB.out.size)
        replace HM := hide9 (HM.out.below hb)
        clear hb
        obtain ⟨p0, p1, p2, p3, p4, p5⟩ := row6 HT.out
        go_wp2_with fail
        clear p0 p1 p2 p3 p4 p5
        refine (apply_all G _ t _ _ LM _ (VIs.of HFd.out) HB3.out hsz Hbn.out HNm.out).mono ?_
        rintro e w10 ⟨v10, rfl, hv10, hb⟩
        replace Hxb : Hid (w10.heap[xb]? = some (.cells #[.int .i64 x.k.1, .int .i64 x.k.2, .string x.tg, .string x.tx, .slice xa x.at_.length xc, .slice xk x.ks.length xd] 33)) := (hb.block _ (row_lt Hxb.out)).trans Hxb.out
        replace HFx := hide9 (HFx.out.below hb)
        replace HB3 := hide9 (HB3.out.below hb)
        replace HT : Hid (w10.heap[w.heap.size]? = some (.cells #[.int .i64 t.k.1, .int .i64 t.k.2, .string t.tg, .string t.tx, .slice aa t.at_.length ca, .slice ak t.ks.length ck] 33)) := (hb.block _ (row_lt HT.out)).trans HT.out
        replace HFd := hide9 (HFd.out.below hb)
        replace HL := hide9 (HL.out.below hb)
        replace HB : Hid (Below w.heap.size w w10) := HB.out.trans (hb.mono HB.out.size)
        replace HM := hide9 (HM.out.below hb)
        clear hb
        obtain ⟨k, en⟩ : ∃ zz, zz = (appR t LM).2.1 := ⟨_, rfl⟩
        obtain ⟨g, ec⟩ : ∃ zz, zz = (appR t LM).2.2 := ⟨_, rfl⟩
        obtain ⟨y, eu⟩ : ∃ zz, zz = (appR t LM).1 := ⟨_, rfl⟩
        have HA3 : Hid (k = (appR t LM).2.1 ∧ g = (appR t LM).2.2 ∧ y = (appR t LM).1) := ⟨en, ec, eu⟩
        rw [← eu] at hv10
        (try rw [← en])
        (try rw [← ec])
        clear en ec eu
        obtain ⟨ya, yc, yk, yd, e1, fu⟩ := hv10.form
        subst e1
        have HFy := hide9 fu
        clear hv10 fu
        have hz : (w10.alloc (.cells #[.int .i64 0, .int .i64 0, .string ⟨#[]⟩, .string ⟨#[]⟩, .slice none 0 0, .slice none 0 0] 33)).heap[w10.heap.size]? = some (.cells #[.int .i64 0, .int .i64 0, .string ⟨#[]⟩, .string ⟨#[]⟩, .slice none 0 0, .slice none 0 0] 33) := heap_alloc_new _ _
        have Hz := hide9 hz
        obtain ⟨W11, eW5⟩ : ∃ X, X = (w10.alloc (.cells #[.int .i64 0, .int .i64 0, .string ⟨#[]⟩, .string ⟨#[]⟩, .slice none 0 0, .slice none 0 0] 33)).setRow w10.heap.size #[.int .i64 y.k.1, .int .i64 y.k.2, .string y.tg, .string y.tx, .slice ya y.at_.length yc, .slice yk y.ks.length yd] := ⟨_, rfl⟩
        have hb : Below w10.heap.size w10 W11 := (by rw [eW5]; exact ((Below.refl _ _).alloc (Nat.le_refl _) _).grown (grown_setRow _ _ _) (by simp) (fun k e => by cases e; exact Nat.le_refl _))
        obtain ⟨yb, eub⟩ : ∃ n, n = w10.heap.size := ⟨_, rfl⟩
        have Hyb : Hid (W11.heap[yb]? = some (.cells #[.int .i64 y.k.1, .int .i64 y.k.2, .string y.tg, .string y.tx, .slice ya y.at_.length yc, .slice yk y.ks.length yd] 33)) := hide9 (by rw [eW5, eub]; exact setRow_same hz)
        have HE5 := hide9 (And.intro eW5 eub)
        replace HFy := hide9 (HFy.out.below hb)
        clear hz eW5 eub
        replace HT : Hid (W11.heap[w.heap.size]? = some (.cells #[.int .i64 t.k.1, .int .i64 t.k.2, .string t.tg, .string t.tx, .slice aa t.at_.length ca, .slice ak t.ks.length ck] 33)) := (hb.block _ (row_lt HT.out)).trans HT.out
        replace HFd := hide9 (HFd.out.below hb)
        replace HL := hide9 (HL.out.below hb)
        replace HB : Hid (Below w.heap.size w W11) := HB.out.trans (hb.mono HB.out.size)
        replace HM := hide9 (HM.out.below hb)
        replace HFx := hide9 (HFx.out.below hb)
        replace Hxb : Hid (W11.heap[xb]? = some (.cells #[.int .i64 x.k.1, .int .i64 x.k.2, .string x.tg, .string x.tx, .slice xa x.at_.length xc, .slice xk x.ks.length xd] 33)) := (hb.block _ (row_lt Hxb.out)).trans Hxb.out
        clear hb
        go_upto_region 9 with (refine wpList_store_row rfl 33 (.tmp 14) (.tmp 53) rfl w10.heap.size 33 #[.int .i64 0, .int .i64 0, .string ⟨#[]⟩, .string ⟨#[]⟩, .slice none 0 0, .slice none 0 0] #[.int .i64 y.k.1, .int .i64 y.k.2, .string y.tg, .string y.tx, .slice ya y.at_.length yc, .slice yk y.ks.length yd] rfl rfl Hz.out sizeVN rfl (by simp [Value.oneCell']) ?_)
        rw [← HE5.out.1, ← HE5.out.2]
        clear HE5 Hz
        have hj := appR_join (M := M) HA.out.2.1.symm
        rw [← HA.out.2.2, ← HA2.out.1, ← HA2.out.2.1, ← HA2.out.2.2, ← HLM.out] at hj
        have HJ := hide9 hj
        clear hj
        by_cases hf : f = 0
        · subst hf
          have hj := HJ.out
          rw [if_pos rfl] at hj
          obtain ⟨e1, e2, e3⟩ := HA3.out
          rw [hj] at e1 e2 e3
          dsimp only at e1 e2 e3
          cases e1
          cases e2
          obtain rfl : x = y := e3.symm
          clear hj HJ HA3 HA2 HA
          have k4 : ((LM.length : Int) == (LM.length : Int)) = true := by simp
          obtain ⟨q0, q1, q2, q3, q4, q5⟩ := row6 Hxb.out
          obtain ⟨r0, r1, r2, r3, r4, r5⟩ := row6 Hyb.out
          go_wp2_with fail
          clear q0 q1 q2 q3 q4 q5 r0 r1 r2 r3 r4 r5
          refine (refSame_any _ _ x x _ _ _ (VIs.of HFx.out) (VIs.of HFy.out)).mono ?_
          rintro e w12 ⟨rfl, hb⟩
          rw [eqV_self]
          replace HB : Hid (Below w.heap.size w w12) := HB.out.trans (hb.mono HB.out.size)
          clear hb
          go_wp2_with fail
          refine (awake_pa _).mono ?_
          rintro e wz ⟨rfl, hb⟩
          replace HB : Hid (Below w.heap.size w wz) := HB.out.trans (hb.mono HB.out.size)
          clear hb
          go_wp2
          (try rw [Exit.noGoto_ret])
          go_ret
          exact ⟨rfl, HB.out⟩
        · have hj := HJ.out
          rw [if_neg hf] at hj
          obtain ⟨e1, e2, e3⟩ := HA3.out
          rw [hj] at e1 e2 e3
          dsimp only at e1 e2 e3
          obtain rfl : f = g := e2.symm
          clear e2 e3
          have hle : n2 ≤ M.length := (by have h9 := (appR_err (t := u) (L := M) (fun e => hf (HA2.out.2.1.trans e))).2; rw [← HA2.out.1] at h9; exact h9)
          clear hj HJ HA3 HA2 HA
          have k3 : (f != 0) = true := by simpa using hf
          have k5 : (f == f) = true := by simp
          have k6 := Hsm.out
          have kL : (L.length : Int) ≤ 200 := by omega
          have kn : (n2 : Int) ≤ 200 := by omega
          have k4 : ((k : Int) == (L.length : Int) + (n2 : Int)) = true := by rw [e1]; simp
          have k8 : IntKind.i64.wrap ((L.length : Int) + (n2 : Int)) = (L.length : Int) + (n2 : Int) := by rw [IntKind.wrap_i64]; omega
          clear hf k6 hle e1
          go_wp2_with fail
          refine (awake_pa _).mono ?_
          rintro e wz ⟨rfl, hb⟩
          replace HB : Hid (Below w.heap.size w wz) := HB.out.trans (hb.mono HB.out.size)
          clear hb
          go_wp2
          (try rw [Exit.noGoto_ret])
          go_ret
          exact ⟨rfl, HB.out⟩
      · have k3 : (c != 0) = true := by simpa using hc
        clear hc
        go_wp2_with fail
        refine (awake_pa _).mono ?_
        rintro e wz ⟨rfl, hb⟩
        replace HB : Hid (Below w.heap.size w wz) := HB.out.trans (hb.mono HB.out.size)
        clear hb
        go_wp2
        (try rw [Exit.noGoto_ret])
        go_ret
        exact ⟨rfl, HB.out⟩
theorem patchJoins_walk (v : Value) (t : VT) (lv : Value) (L : List Pa) (mv : Value) (M : List Pa) (w : World) (h : VIs (fun _ => True) w v t) (hbn : BnA t) (hsz : t.sz ≤ 1048576) (hl : IsPp w lv L) (hm : IsPp w mv M) : Calls Try.prog 7 #[v, lv, mv] w fun e w' => e = .returned (.bool true) ∧ Below w.heap.size w w' := patchJoins_any _ t v lv mv L M w h hl.1 hm.1 hbn hsz fun p hp => by
  rcases List.mem_append.1 hp with hp | hp
  · exact Nat.le_trans (hl.2 p hp).1 (by decide)
  · exact Nat.le_trans (hm.2 p hp).1 (by decide)

end Go.Proofs.Ytccpljllgpabnaa

namespace Go.Proofs.Ytccpljllgpabnaa
open Go.ChangeShapes Go.WideShapes Go.ChangeAt Go.RowKit
set_option linter.unusedVariables false

set_option maxRecDepth 100000 in
theorem patchJoins_lifted (os : Os) (started : os.Started) (H : Type) (enc : TypeId × Value → H) (F : Stop.Interp) :
    ReturnsInHanded {} Try.checked os 7 .any ((Rows.OpenSpec.upto Rows.patchJoinsSpec).pre6 enc Try.prog Try.f7 Rows.patchJoinsUptoRow.domain false) (((Rows.OpenSpec.upto Rows.patchJoinsSpec).at F).post enc Try.prog Try.f7 false true false false) := by
  refine returnsInHanded_of_cond_sized (C := Try.checked) (s := Rows.OpenSpec.upto Rows.patchJoinsSpec) (k := Rows.uptoSmall) rfl ownI started (by kernel_rfl) Try.func7
    (OpenSpec.witness (enc := enc) (C := Try.checked) (s := Rows.OpenSpec.upto Rows.patchJoinsSpec) (k := Rows.uptoSmall) rfl false ⟨#[], #[.agg #[.int .i64 0, .int .i64 0, .string ByteArray.empty, .string ByteArray.empty, .slice none 0 0, .slice none 0 0], .slice none 0 0, .slice none 0 0], []⟩ 8 (by kernel_rfl) (by kernel_rfl) (by kernel_rfl)
      (x := ([.agg [.agg [.lit (.int .i64 0), .lit (.int .i64 0)], .lit (.string []), .lit (.string []), .nil, .nil], .nil, .nil], [], [])) (by kernel_rfl) rfl (by kernel_rfl)) ?_
  intro W base args ds gs before hval0 hW _ hk hsz0 _
  have hval : ∀ (j : Nat) t v, Try.f7.params[j]? = some t → args[j]? = some v → Value.okWide Try.prog W .any base t v := hval0
  have hW' := hW
  obtain ⟨p, q, hA0, hV, rfl, hfz, hnd⟩ := hW
  have hA : DataW.TrodAll enc Try.prog W 0 (fun _ => true) true Try.f7.params.toList args.toList ds p := hA0
  rw [Try.params7] at hA hval
  obtain ⟨v0, v1, v2, d0, d1, d2, p0, p1, p2, rfl, rfl, rfl, h0, h1, h2⟩ := trodAll_three hA
  obtain ⟨rfl, rfl⟩ := trodVars_none hV
  have hk0 := h0
  have hk1 := h1
  have hk2 := h2
  have hb : Rows.uptoBulkAll _ ≤ 1048576 := of_decide_eq_true hk
  simp only [List.append_nil, Rows.uptoBulkAll] at hb
  have hsz : (DataW.weightsEach Try.prog [33, 34, 34] [d0, d1, d2]).all (· ≤ reachBytes) = true := hsz0
  have hw0 : ∀ n ∈ d0.weights Try.prog 33, n ≤ reachBytes := fun n hn => by
    have h1 := List.all_eq_true.1 hsz n (DataW.weights_mem_each (j := 0) rfl rfl n hn)
    simpa using h1
  obtain ⟨D0, is0, bn0, bk0⟩ := open_nodeV (hval 0 33 v0 rfl rfl) h0 hw0
  have hlt0 : ∀ x ∈ p0, x.block < W.heap.size := fun x hx => by simpa using hW'.lt x (by simp [hx])
  have hw1 : ∀ n ∈ d1.weights Try.prog 34, n ≤ reachBytes := fun n hn => by
    have h1 := List.all_eq_true.1 hsz n (DataW.weights_mem_each (j := 1) rfl rfl n hn)
    simpa using h1
  obtain ⟨D1, is1⟩ := open_patchesV (hval 1 34 v1 rfl rfl) h1 hw1
  have hlt1 : ∀ x ∈ p1, x.block < W.heap.size := fun x hx => by simpa using hW'.lt x (by simp [hx])
  have hw2 : ∀ n ∈ d2.weights Try.prog 34, n ≤ reachBytes := fun n hn => by
    have h1 := List.all_eq_true.1 hsz n (DataW.weights_mem_each (j := 2) rfl rfl n hn)
    simpa using h1
  obtain ⟨D2, is2⟩ := open_patchesV (hval 2 34 v2 rfl rfl) h2 hw2
  have hlt2 : ∀ x ∈ p2, x.block < W.heap.size := fun x hx => by simpa using hW'.lt x (by simp [hx])
  clear hA0 hval0
  refine (patchJoins_walk v0 D0 v1 D1 v2 D2 W is0 (fun x hx => bn0 0 x hx) (by omega) is1 is2).mono fun e W' ⟨he, bel⟩ => ?_
  subst he
  exact ⟨_, rfl, _, _, _, [], _, [], hW', trodAll_mk1 (shut_bool Try.underlying4 _), trodAll_mk3 (Below.trod laidOutI (by kernel_rfl) (of_decide_eq_true (by kernel_rfl)) hk0 bel hlt0) (Below.trod laidOutI (by kernel_rfl) (of_decide_eq_true (by kernel_rfl)) hk1 bel hlt1) (Below.trod laidOutI (by kernel_rfl) (of_decide_eq_true (by kernel_rfl)) hk2 bel hlt2), rfl, bel.frame _, fun h => by cases h⟩

theorem patchJoins_holds : Rows.PatchJoinsUptoSaid :=
  OpenClaim.holds_of_cond 7 Try.f7 rfl rfl rfl rfl rfl rfl rfl ⟨rfl, rfl, rfl, rfl, rfl⟩ rfl rfl rfl rfl rfl (by kernel_rfl) Try.func7 (by kernel_rfl)
    (of_decide_eq_true (by kernel_rfl)) (by unfold Func.isWrapper; first | (rw [if_pos (by decide +kernel)]; kernel_rfl) | (rw [if_neg (by decide +kernel)]; exact ⟨rfl, rfl⟩))
    (fun os started H enc _ F => patchJoins_lifted os started H enc F)
#print axioms patchJoins_holds
end Go.Proofs.Ytccpljllgpabnaa
