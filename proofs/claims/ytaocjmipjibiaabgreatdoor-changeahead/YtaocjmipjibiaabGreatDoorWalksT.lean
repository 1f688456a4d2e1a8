/- What the library's Itoa, Atoi and Cut do at this program (by the shelf's contracts), and what parseNumber makes of any text. -/
import Derived.Test.YtaocjmipjibiaabGreatDoorWalksA
import Derived.Test.YtaocjmipjibiaabGreatDoorPlainT
import Derived.Test.YtaocjmipjibiaabGreatDoorLays
import Derived.Lib.SmallJoins
import Derived.Lib.AppendIntMem
import Derived.Lib.AtoiErrMem
import Derived.Lib.IndexLaws
import Derived.Deep.QuietTactic
import Derived.BigQuiet
namespace Go.Proofs.YtaocjmipjibiaabGreatDoor
open Go.RowKit
set_option linter.unusedVariables false

/-- What the library's variables hold, as far as a number's text is made or read. -/
def Env (w : World) : Prop :=
  Lib.TabIs Tryz.prog w "internal/strconv.uint64pow10" .u64 Lib.pow10Tab ∧ (∃ tp p, w.var? Tryz.prog "strconv.ErrSyntax" = some #[.iface tp p]) ∧ ∃ tp p, w.var? Tryz.prog "strconv.ErrRange" = some #[.iface tp p]
theorem gPow : Tryz.prog.globalNamed "internal/strconv.uint64pow10" = some 0 := by kernel_rfl
theorem gSyn : Tryz.prog.globalNamed "strconv.ErrSyntax" = some 4 := by kernel_rfl
theorem gRan : Tryz.prog.globalNamed "strconv.ErrRange" = some 5 := by kernel_rfl
theorem Env.below {w w' : World} (h : Env w) (hb : Below w.heap.size w w') : Env w' := by
  obtain ⟨h1, ⟨t, p, h2⟩, t2, p2, h3⟩ := h
  exact ⟨Joins.tab_stays gPow h1 hb (Nat.le_refl _), ⟨t, p, Joins.var_stays gSyn h2 hb (Nat.le_refl _)⟩, t2, p2, Joins.var_stays gRan h3 hb (Nat.le_refl _)⟩

theorem itoa_any (n : Int) (h0 : -9223372036854775808 ≤ n) (h1 : n ≤ 9223372036854775807) (w : World) (he : Env w) :
    Calls Tryz.prog 15 #[.int .i64 n] w fun e w' => e = .returned (.string ⟨(Lib.itoa n).toArray⟩) ∧ Below w.heap.size w w' :=
  (Any.strconv_Itoa Tryz.laysM171 n h0 h1 w he.1).mono fun e w' ⟨h, k, os, hw⟩ => ⟨h, hw ▸ Lib.below_grow _ _ (Nat.le_refl _) k os⟩

theorem atoi_ok (s : ByteArray) (hs : s.size ≤ 281474976710656) (v : Int) (h : Lib.atoiAll s.data.toList = .ok v) (w : World) :
    Calls Tryz.prog 84 #[.string s] w fun e w' => e = .returned (.tuple #[.int .i64 v, .nilIface]) ∧ Below w.heap.size w w' :=
  (Any.strconv_Atoi_ok Tryz.laysC172 s (by omega) v h w).mono fun e w' ⟨h, hw⟩ => ⟨h, by
    rcases hw with rfl | ⟨t, rfl⟩
    · exact Below.refl _ _
    · exact Lib.bytesWorld_below _ _ _⟩

theorem atoi_bad (s : ByteArray) (hs : s.size ≤ 281474976710656) (h : ∀ v, Lib.atoiAll s.data.toList ≠ .ok v) (w : World) (he : Env w) :
    Calls Tryz.prog 84 #[.string s] w fun e w' => ∃ (n : Int) (t : TypeId) (p : Value), e = .returned (.tuple #[.int .i64 n, .iface t p]) ∧ Below w.heap.size w w' := by
  obtain ⟨_, ⟨t1, p1, h1⟩, t2, p2, h2⟩ := he
  cases g : Lib.atoiAll s.data.toList with
  | ok v => exact absurd g (h v)
  | range => exact (Any.strconv_Atoi_range_var Tryz.laysC172 s hs g t2 p2 w h2).mono fun e w' ⟨N, h, _, _, hb⟩ => ⟨_, _, _, h, hb⟩
  | _ => exact (Any.strconv_Atoi_syntax_var Tryz.laysC172 s hs g t1 p1 w h1).mono fun e w' ⟨N, h, _, _, hb⟩ => ⟨_, _, _, h, hb⟩

/-- What parseNumber tells: the number of which the text is the numeral, as Itoa writes it. -/
def NumIs (l : List UInt8) (n : Int) (b : Bool) : Prop :=
  (b = true → l = Lib.itoa n ∧ -9223372036854775808 ≤ n ∧ n ≤ 9223372036854775807) ∧ (b = false → ∀ u : Nat, u ≤ 1099511627776 → l ≠ Lib.decDigits u)

set_option maxHeartbeats 400000 in
theorem parseNumber_any (s : ByteArray) (hs : s.size ≤ 281474976710656) (w : World) (he : Env w) :
    Calls Tryz.prog 68 #[.string s] w fun e w' => ∃ n b, e = .returned (.tuple #[.int .i64 n, .bool b]) ∧ NumIs s.data.toList n b ∧ Below w.heap.size w w' := by
  by_cases h : ∃ v, Lib.atoiAll s.data.toList = .ok v
  · obtain ⟨v, hv⟩ := h
    have hb := Lib.atoiAll_bounds hv
    have H : Hid (Lib.atoiAll s.data.toList = .ok v) := hv
    clear hv
    by_cases hq : s.data.toList = Lib.itoa v
    · have q1 : (Lib.itoa v == s.toList) = true := by rw [ByteArray.toList_eq, hq]; simp
      have HQ : Hid (s.data.toList = Lib.itoa v) := hq
      clear hq
      go_enter Tryz.func68, Tryz.ntmps68
      go_wp2_with fail
      refine (atoi_ok s hs v H.out _).mono ?_
      rintro e w1 ⟨rfl, hb1⟩
      go_wp2_with fail
      refine (itoa_any v hb.1 hb.2 _ (he.below hb1)).mono ?_
      rintro e w2 ⟨rfl, hb2⟩
      have bel : Below w.heap.size w w2 := hb1.trans (hb2.mono hb1.size)
      go_wp2
      go_ret2
      exact ⟨v, true, rfl, ⟨fun _ => ⟨HQ.out, hb⟩, fun h => by cases h⟩, bel⟩
    · have q1 : (Lib.itoa v == s.toList) = false := by rw [ByteArray.toList_eq, beq_eq_false_iff_ne]; exact fun h => hq h.symm
      have HQ : Hid (¬ s.data.toList = Lib.itoa v) := hq
      clear hq
      go_enter Tryz.func68, Tryz.ntmps68
      go_wp2_with fail
      refine (atoi_ok s hs v H.out _).mono ?_
      rintro e w1 ⟨rfl, hb1⟩
      go_wp2_with fail
      refine (itoa_any v hb.1 hb.2 _ (he.below hb1)).mono ?_
      rintro e w2 ⟨rfl, hb2⟩
      have bel : Below w.heap.size w w2 := hb1.trans (hb2.mono hb1.size)
      go_wp2
      go_ret2
      refine ⟨0, false, rfl, ⟨fun h => (by cases h), fun _ u hu e => ?_⟩, bel⟩
      have h1 := H.out
      rw [e, atoi_decDigits u (by omega)] at h1
      cases h1
      exact HQ.out (by rw [e, itoa_nat _ (by omega)]; simp)
  · have hn : ∀ v, Lib.atoiAll s.data.toList ≠ .ok v := fun v hv => h ⟨v, hv⟩
    have H : Hid (∀ v, Lib.atoiAll s.data.toList ≠ .ok v) := hn
    clear h hn
    go_enter Tryz.func68, Tryz.ntmps68
    go_wp2_with fail
    refine (atoi_bad s hs H.out _ he).mono ?_
    rintro e w1 ⟨n, t, p, rfl, hb1⟩
    go_wp2
    go_ret2
    exact ⟨0, false, rfl, ⟨fun h => (by cases h), fun _ u hu e => H.out u (by rw [e, atoi_decDigits u (by omega)])⟩, hb1⟩

end Go.Proofs.YtaocjmipjibiaabGreatDoor
