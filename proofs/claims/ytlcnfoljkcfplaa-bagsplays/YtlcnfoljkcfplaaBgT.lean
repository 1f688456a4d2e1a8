/- A net of two of which one link alone has parcels. -/
import Derived.Test.YtlcnfoljkcfplaaBgI
import Derived.Test.YtlcnfoljkcfplaaBgZ
namespace Go.Proofs.Ytlcnfoljkcfplaa
open Go.RowKit
set_option linter.unusedVariables false
set_option linter.unusedSimpArgs false

def U (i : Nat) (b : List Pc) : Nat → List Pc := upd noB i b
theorem U_at (i : Nat) (b : List Pc) : U i b i = b := upd_same _ _ _
theorem U_upd (i : Nat) (b c : List Pc) : upd (U i b) i c = U i c := by
  funext k
  unfold U upd
  split <;> rfl
theorem pl10 : plc 2 1 0 = 2 := rfl
theorem pl01 : plc 2 0 1 = 1 := rfl
theorem lk10 : linkE 2 1 0 = 0 := by decide
theorem lk01 : linkE 2 0 1 = 0 := by decide
section
variable {f t : Int} {i : Nat} (hl : linkE 2 f t = 0) (hp : plc 2 f t = i)
include hl hp
theorem one_send {b : List Pc} {p : List UInt8} (h : p.length ≤ 65545) (hb : b.length < 256) : sendE 2 (U i b) f t p = 0 ∧ sendN 2 (U i b) f t p = U i (b ++ [(p, false)]) := by
  have h2 : ¬ 65545 < p.length := by omega
  unfold sendE sendN putE putN
  rw [hp, U_at, if_pos hl, if_neg h2, if_pos hb, if_pos ⟨hl, h2⟩, if_pos hb, U_upd]
  exact ⟨rfl, rfl⟩
theorem one_full {b : List Pc} {p : List UInt8} (h : p.length ≤ 65545) (hb : ¬ b.length < 256) : sendE 2 (U i b) f t p = 6 ∧ sendN 2 (U i b) f t p = U i b := by
  have h2 : ¬ 65545 < p.length := by omega
  unfold sendE sendN putE putN
  rw [hp, U_at, if_pos hl, if_neg h2, if_neg hb, if_pos ⟨hl, h2⟩, if_neg hb]
  exact ⟨rfl, rfl⟩
omit hp in
theorem one_long {b : List Pc} {p : List UInt8} (h : 65545 < p.length) : sendE 2 (U i b) f t p = 3 ∧ sendN 2 (U i b) f t p = U i b := by
  unfold sendE sendN
  rw [if_pos hl, if_pos h, if_neg (fun h2 => h2.2 h)]
  exact ⟨rfl, rfl⟩
theorem one_with {b : List Pc} {k : Nat} (hk : k < b.length) : withE 2 (U i b) f t (k : Int) = 0 := by
  unfold withE
  rw [if_pos hl, hp, U_at, if_pos ⟨by omega, by omega⟩]
theorem one_pc {b : List Pc} {k : Nat} (hk : k < b.length) : pcAt 2 (U i b) f t (k : Int) = b[k] := by
  unfold pcAt
  rw [if_pos (one_with hl hp hk), hp, U_at, Int.toNat_natCast, List.getD_eq_getElem?_getD, List.getElem?_eq_getElem hk]
  rfl
theorem one_lose {b : List Pc} {k : Nat} (hk : k < b.length) : loseN 2 (U i b) f t (k : Int) = U i (b.eraseIdx k) := by
  unfold loseN
  rw [if_pos (one_with hl hp hk), hp, U_at, U_upd]
  rfl
theorem one_dbl {b : List Pc} {k : Nat} (hk : k < b.length) (hb : b.length < 256) : dblE 2 (U i b) f t (k : Int) = 0 ∧ dblN 2 (U i b) f t (k : Int) = U i (b ++ [b[k]]) := by
  unfold dblE dblN putE putN
  rw [if_pos (one_with hl hp hk), if_pos (one_with hl hp hk), one_pc hl hp hk, hp, U_at, if_pos hb, if_pos hb, U_upd]
  exact ⟨rfl, rfl⟩
theorem one_dblF {b : List Pc} {k : Nat} (hk : k < b.length) (hb : ¬ b.length < 256) : dblE 2 (U i b) f t (k : Int) = 6 ∧ dblN 2 (U i b) f t (k : Int) = U i b := by
  unfold dblE dblN putE putN
  rw [if_pos (one_with hl hp hk), if_pos (one_with hl hp hk), hp, U_at, if_neg hb, if_neg hb]
  exact ⟨rfl, rfl⟩
theorem one_sp {b : List Pc} {k : Nat} (hk : k < b.length) (hs : b[k].2 = false) (at_ mask : Int) : spE 2 (U i b) f t (k : Int) at_ mask = (spoilL b[k].1 at_ mask).2 ∧ spN 2 (U i b) f t (k : Int) at_ mask = if (spoilL b[k].1 at_ mask).2 = 0 then U i (b.set k ((spoilL b[k].1 at_ mask).1, true)) else U i b := by
  have h1 : spE 2 (U i b) f t (k : Int) at_ mask = (spoilL b[k].1 at_ mask).2 := by rw [spE_ok (one_with hl hp hk) (by rw [one_pc hl hp hk]; exact hs), one_pc hl hp hk]
  refine ⟨h1, ?_⟩
  unfold spN
  rw [h1, one_pc hl hp hk, hp, U_at, U_upd]
  rfl
theorem one_sp2 {b : List Pc} {k : Nat} (hk : k < b.length) (hs : b[k].2 = true) (at_ mask : Int) : spE 2 (U i b) f t (k : Int) at_ mask = 5 ∧ spN 2 (U i b) f t (k : Int) at_ mask = U i b := by
  have h1 : spE 2 (U i b) f t (k : Int) at_ mask = 5 := by unfold spE; rw [if_pos (one_with hl hp hk), one_pc hl hp hk, hs]; rfl
  refine ⟨h1, ?_⟩
  unfold spN
  rw [h1]
  rfl
theorem one_wait {b : List Pc} : (if linkE 2 f t = 0 then ((U i b (plc 2 f t)).length : Int) else 0) = (b.length : Int) := by
  rw [if_pos hl, hp, U_at]
end
/-- Bytes that lie in none of the net's blocks. -/
def IsBa (F : Nat → Prop) (w : World) (v : Value) (p : List UInt8) : Prop :=
  ∃ (a : Option Addr) (cap : Nat), v = .slice a p.length cap ∧ p.length ≤ cap ∧ p.length ≤ 281474976710656 ∧ (p = [] ∨ ∃ b o, a = some ⟨b, o, none⟩ ∧ ¬ F b ∧ BytesAt w b o p)
theorem IsBa.isB {F : Nat → Prop} {w : World} {v : Value} {p : List UInt8} (h : IsBa F w v p) : IsB w v p := by
  obtain ⟨a, cap, e, hc, hl, h⟩ := h
  exact ⟨a, cap, e, hc, hl, h.imp id fun ⟨b, o, e2, _, hr⟩ => ⟨b, o, e2, hr⟩⟩
theorem IsBa.below {F : Nat → Prop} {w w' : World} {v : Value} {p : List UInt8} (h : IsBa F w v p) (hb : Below w.heap.size w w') : IsBa F w' v p := by
  obtain ⟨a, cap, e, hc, hl, h⟩ := h
  exact ⟨a, cap, e, hc, hl, h.imp id fun ⟨b, o, e2, hn, hr⟩ => ⟨b, o, e2, hn, hr.below hb⟩⟩
theorem IsBa.touch {F F' : Nat → Prop} {w w' : World} {v : Value} {p : List UInt8} (h : IsBa F w v p) (ht : Touch F w w') (hF : ∀ k, F' k → F k ∨ w.heap.size ≤ k) : IsBa F' w' v p := by
  obtain ⟨a, cap, e, hc, hl, h⟩ := h
  refine ⟨a, cap, e, hc, hl, ?_⟩
  by_cases hp : p = []
  · exact .inl hp
  · obtain ⟨b, o, e2, hn, hr⟩ := h.resolve_left hp
    have hlt := hr.lt hp
    exact .inr ⟨b, o, e2, fun h' => (hF b h').elim hn (fun h2 => by omega), hr.block (ht.block b hlt hn)⟩
theorem IsB.a {F : Nat → Prop} {w : World} {v : Value} {p : List UInt8} (h : IsB w v p) (hF : ∀ k, k < w.heap.size → ¬ F k) : IsBa F w v p := by
  obtain ⟨a, cap, e, hc, hl, h⟩ := h
  refine ⟨a, cap, e, hc, hl, ?_⟩
  by_cases hp : p = []
  · exact .inl hp
  · obtain ⟨b, o, e2, hr⟩ := h.resolve_left hp
    exact .inr ⟨b, o, e2, hF b (hr.lt hp), hr⟩
theorem OwnB.a {F : Nat → Prop} {B : Nat} {w : World} {v : Value} {p : List UInt8} (h : OwnB B w v p) (hl : p.length ≤ 281474976710656) (hF : ∀ k, F k → k < B) : IsBa F w v p := by
  obtain ⟨a, cap, e, hc, r⟩ := h.rows
  exact ⟨a, cap, e, hc, hl, r.imp id fun ⟨b, o, e2, hB, _, hr⟩ => ⟨b, o, e2, fun h' => by have := hF b h'; omega, hr⟩⟩
theorem FreshB.a {F : Nat → Prop} {B : Nat} {w : World} {v : Value} {p : List UInt8} (h : FreshB B w v p) (hl : p.length ≤ 281474976710656) (hF : ∀ k, F k → k < B) : IsBa F w v p := by
  rcases h with ⟨rfl, rfl⟩ | ⟨g, cap, rfl, hg, _, hc, hb, _⟩
  · exact ⟨none, 0, rfl, Nat.le_refl _, by simp, .inl rfl⟩
  · exact ⟨_, cap, rfl, hc, hl, .inr ⟨g, 0, rfl, fun h' => by have := hF g h'; omega, hb⟩⟩
theorem IsBa.form {F : Nat → Prop} {w : World} {v : Value} {p : List UInt8} (h : IsBa F w v p) : ∃ a cap, v = .slice a p.length cap := by obtain ⟨a, cap, e, _⟩ := h; exact ⟨a, cap, e⟩
/-- A net of two, made since w. -/
def NetW (w : World) (nb : Nat) (B : Nat → List Pc) (F : Nat → Prop) (W : World) : Prop := NetOk F W nb 2 B ∧ (∀ k, F k → w.heap.size ≤ k) ∧ Below w.heap.size w W
theorem NetW.below {w W W' : World} {nb : Nat} {B : Nat → List Pc} {F : Nat → Prop} (h : NetW w nb B F W) (hb : Below W.heap.size W W') : NetW w nb B F W' := ⟨h.1.below hb, h.2.1, h.2.2.trans (hb.mono h.2.2.size)⟩
theorem NetW.s {w W W' : World} {nb : Nat} {B B' : Nat → List Pc} {F : Nat → Prop} (h : NetW w nb B F W) (hs : NetS F nb 2 W W' B') : NetW w nb B' F W' := ⟨hs.1, h.2.1, h.2.2.trans (hs.2.below h.2.1 h.2.2.size)⟩
theorem NetW.p {w W W' : World} {nb : Nat} {B B' : Nat → List Pc} {F F' : Nat → Prop} (h : NetW w nb B F W) (hn : NetOk F' W' nb 2 B') (hF : ∀ k, F' k → F k ∨ W.heap.size ≤ k) (ht : Touch F W W') : NetW w nb B' F' W' := ⟨hn, fun k hk => (hF k hk).elim (h.2.1 k) (fun h2 => Nat.le_trans h.2.2.size h2), h.2.2.trans (ht.below h.2.1 h.2.2.size)⟩
theorem one_no : U 1 [] = noB ∧ U 2 [] = noB := by
  refine ⟨?_, ?_⟩ <;> (funext k; unfold U upd noB; split <;> rfl)

end Go.Proofs.Ytlcnfoljkcfplaa
