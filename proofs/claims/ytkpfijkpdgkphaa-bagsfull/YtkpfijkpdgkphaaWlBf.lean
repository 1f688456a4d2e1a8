/- BagsFull: a link has room for so many frames, and for frames so long. -/
import Derived.Test.YtkpfijkpdgkphaaBgT
namespace Go.Proofs.Ytkpfijkpdgkphaa
open Go.RowKit
set_option linter.unusedVariables false
set_option linter.unusedSimpArgs false

section
variable {n : Nat} {B : Nat → List Pc} {f t : Int} {i : Nat} {b : List Pc} (hl : linkE n f t = 0) (hp : plc n f t = i) (hB : B i = b)
include hl hp hB
theorem g_send {p : List UInt8} (h : p.length ≤ 65545) (hb : b.length < 256) : sendE n B f t p = 0 ∧ sendN n B f t p = upd B i (b ++ [(p, false)]) := by
  have h2 : ¬ 65545 < p.length := by omega
  unfold sendE sendN putE putN
  rw [hp, hB, if_pos hl, if_neg h2, if_pos hb, if_pos ⟨hl, h2⟩, if_pos hb]
  exact ⟨rfl, rfl⟩
theorem g_full {p : List UInt8} (h : p.length ≤ 65545) (hb : ¬ b.length < 256) : sendE n B f t p = 6 ∧ sendN n B f t p = B := by
  have h2 : ¬ 65545 < p.length := by omega
  unfold sendE sendN putE putN
  rw [hp, hB, if_pos hl, if_neg h2, if_neg hb, if_pos ⟨hl, h2⟩, if_neg hb]
  exact ⟨rfl, rfl⟩
theorem g_with {k : Nat} (hk : k < b.length) : withE n B f t (k : Int) = 0 := by
  unfold withE
  rw [if_pos hl, hp, hB, if_pos ⟨by omega, by omega⟩]
theorem g_pc {k : Nat} (hk : k < b.length) : pcAt n B f t (k : Int) = b[k] := by
  unfold pcAt
  rw [if_pos (g_with hl hp hB hk), hp, hB, Int.toNat_natCast, List.getD_eq_getElem?_getD, List.getElem?_eq_getElem hk]
  rfl
theorem g_lose {k : Nat} (hk : k < b.length) : loseN n B f t (k : Int) = upd B i (b.eraseIdx k) := by
  unfold loseN
  rw [if_pos (g_with hl hp hB hk), hp, hB]
  rfl
theorem g_dbl {k : Nat} (hk : k < b.length) (hb : b.length < 256) : dblE n B f t (k : Int) = 0 ∧ dblN n B f t (k : Int) = upd B i (b ++ [b[k]]) := by
  unfold dblE dblN putE putN
  rw [if_pos (g_with hl hp hB hk), if_pos (g_with hl hp hB hk), g_pc hl hp hB hk, hp, hB, if_pos hb, if_pos hb]
  exact ⟨rfl, rfl⟩
theorem g_dblF {k : Nat} (hk : k < b.length) (hb : ¬ b.length < 256) : dblE n B f t (k : Int) = 6 ∧ dblN n B f t (k : Int) = B := by
  unfold dblE dblN putE putN
  rw [if_pos (g_with hl hp hB hk), if_pos (g_with hl hp hB hk), hp, hB, if_neg hb, if_neg hb]
  exact ⟨rfl, rfl⟩
theorem g_wait : (if linkE n f t = 0 then ((B (plc n f t)).length : Int) else 0) = (b.length : Int) := by
  rw [if_pos hl, hp, hB]
end
theorem len_zero : sumW (wall 2 (U 1 []) 2) = 0 := by decide
theorem len_one (p : List UInt8) : sumW (wall 2 (U 1 [(p, false)]) 2) = 1 := rfl

set_option maxRecDepth 100000 in
set_option maxHeartbeats 8000000 in
theorem bagsFull_walk (v : Value) (p : List UInt8) (more : Int) (w : World) (h : IsB w v p) (hp : p.length ≤ 140737488351232) (hm : (Lit.int IntKind.i64 more).wf = true) :
    Calls Try.prog 5 #[v, .int .i64 more] w fun e w' => e = .returned (.bool true) ∧ Below w.heap.size w w' := by
  have H : Hid (IsB w v p) := h
  obtain ⟨a1, c1, rfl, hc1, hl1, r1⟩ := h
  clear r1 hm
  go_enter Try.func5, Try.ntmps5
  go_wp2_with fail
  refine (new_any 2 _).mono ?_
  rintro e w1 ⟨hnp, hb⟩
  rcases hnp with ⟨h, _⟩ | ⟨k, hk, _, _, nb, F, rfl, hn, hF⟩
  · omega
  obtain rfl : k = 2 := by omega
  have HW1 : Hid (NetW w nb (U 1 []) F w1) := ⟨by rw [one_no.1]; exact hn, hF, hb⟩
  clear hn hF hb hk
  by_cases hlong : 65545 < p.length
  · have hS := (one_long (t := 1) (i := 1) lk01 (b := []) hlong)
    have HS1 : Hid (sendE 2 (U 1 []) 0 1 p = 3 ∧ sendN 2 (U 1 []) 0 1 p = U 1 []) := hS
    have ql : (65545 : Int) < (p.length : Int) := by omega
    clear hS
    go_wp2_with fail
    refine (send_any F nb 2 (U 1 []) 0 1 _ p _ HW1.out.1 (H.out.below HW1.out.2.2)).mono ?_
    rintro e w3 ⟨rfl, F3, hn3, _, hF3, ht3⟩
    rw [HS1.out.1]
    rw [HS1.out.2] at hn3
    have HW3 : Hid (NetW w nb (U 1 []) F3 w3) := HW1.out.p hn3 hF3 ht3
    have HLn : Hid (sumW (wall 2 (U 1 []) 2) = 0) := len_zero
    clear hn3 hF3 ht3
    go_wp2_with fail
    refine (len_any F3 nb 2 _ _ HW3.out.1).mono ?_
    rintro e w4 ⟨rfl, hb4⟩
    rw [HLn.out]
    have HB4 : Hid (Below w.heap.size w w4) := HW3.out.2.2.trans (hb4.mono HW3.out.2.2.size)
    clear hb4
    go_wp2_with fail
    refine (awake_any _).mono ?_
    rintro e w5 ⟨rfl, hb5⟩
    have HB5 : Hid (Below w.heap.size w w5) := HB4.out.trans (hb5.mono HB4.out.size)
    clear hb5
    go_wp2
    go_ret
    exact ⟨rfl, HB5.out⟩
  have hp2 : p.length ≤ 65545 := by omega
  by_cases hmid : 100 < p.length
  · have hS := (one_send lk01 pl01 (b := []) (p := p) hp2 (by simp))
    have HS1 : Hid (sendE 2 (U 1 []) 0 1 p = 0 ∧ sendN 2 (U 1 []) 0 1 p = U 1 [(p, false)]) := hS
    have ql : ¬ (65545 : Int) < (p.length : Int) := by omega
    have ql2 : (100 : Int) < (p.length : Int) := by omega
    clear hS
    go_wp2_with fail
    refine (send_any F nb 2 (U 1 []) 0 1 _ p _ HW1.out.1 (H.out.below HW1.out.2.2)).mono ?_
    rintro e w3 ⟨rfl, F3, hn3, _, hF3, ht3⟩
    rw [HS1.out.1]
    rw [HS1.out.2] at hn3
    have HW3 : Hid (NetW w nb (U 1 [(p, false)]) F3 w3) := HW1.out.p hn3 hF3 ht3
    have HLn : Hid (sumW (wall 2 (U 1 [(p, false)]) 2) = 1) := len_one p
    clear hn3 hF3 ht3
    go_wp2_with fail
    refine (len_any F3 nb 2 _ _ HW3.out.1).mono ?_
    rintro e w4 ⟨rfl, hb4⟩
    rw [HLn.out]
    have HB4 : Hid (Below w.heap.size w w4) := HW3.out.2.2.trans (hb4.mono HW3.out.2.2.size)
    clear hb4
    go_wp2_with fail
    refine (awake_any _).mono ?_
    rintro e w5 ⟨rfl, hb5⟩
    have HB5 : Hid (Below w.heap.size w w5) := HB4.out.trans (hb5.mono HB4.out.size)
    clear hb5
    go_wp2
    go_ret
    exact ⟨rfl, HB5.out⟩
  have ql : ¬ (65545 : Int) < (p.length : Int) := by omega
  have ql2 : ¬ (100 : Int) < (p.length : Int) := by omega
  go_wp2
  go_loopw [7] (fun iv wr => ∃ k : Nat, k ≤ 256 ∧ iv = .int .i64 (k : Int) ∧ ∃ F', Hid (NetW w nb (U 1 (List.replicate k (p, false))) F' wr)) (fun iv _ => 256 - (intOf iv).toNat)
  case atStart => exact ⟨0, by omega, rfl, F, HW1⟩
  case round =>
    obtain ⟨k, hk, rfl, F', HWr⟩ := hrel
    by_cases hlt : k < 256
    · have hS := (one_send lk01 pl01 (b := List.replicate k (p, false)) (p := p) hp2 (by rw [List.length_replicate]; exact hlt))
      have HS1 : Hid (sendE 2 (U 1 (List.replicate k (p, false))) 0 1 p = 0 ∧ sendN 2 (U 1 (List.replicate k (p, false))) 0 1 p = U 1 (List.replicate (k + 1) (p, false))) := by
        rw [← List.replicate_append_replicate (n := k) (m := 1)]
        exact hS
      have k1 : (k : Int) < 256 := by omega
      clear hS
      go_wp2_with fail
      refine (send_any F' nb 2 _ 0 1 _ p _ HWr.out.1 (H.out.below HWr.out.2.2)).mono ?_
      rintro e w3 ⟨rfl, F3, hn3, _, hF3, ht3⟩
      rw [HS1.out.1]
      rw [HS1.out.2] at hn3
      have HW3 : Hid (NetW w nb (U 1 (List.replicate (k + 1) (p, false))) F3 w3) := HWr.out.p hn3 hF3 ht3
      clear hn3 hF3 ht3 HS1
      go_wp2
      go_round
      case rel => exact ⟨k + 1, by omega, by go_num, F3, HW3⟩
      case measure => simp [intOf]; omega
    · obtain rfl : k = 256 := by omega
      obtain ⟨L, hL⟩ : ∃ L, L = List.replicate 256 ((p, false) : Pc) := ⟨_, rfl⟩
      have hLl : L.length = 256 := by rw [hL, List.length_replicate]
      have HLg : Hid (∀ i (h : i < L.length), L[i] = (p, false)) := by subst hL; exact fun i h => List.getElem_replicate ..
      rw [← hL] at HWr
      clear hL
      have HLl : Hid (L.length = 256) := hLl
      have hS := (one_full lk01 pl01 (b := L) (p := p) hp2 (by omega))
      have hD := (one_dblF lk01 pl01 (b := L) (k := 0) (by omega) (by omega))
      have hWt := (one_wait (f := 0) (t := 1) (i := 1) lk01 pl01 (b := L))
      have hS2 := (g_send (B := U 1 L) (b := []) lk10 pl10 rfl (p := p) hp2 (by simp))
      rw [hLl] at hWt
      have HS : Hid (sendE 2 (U 1 L) 0 1 p = 6 ∧ sendN 2 (U 1 L) 0 1 p = U 1 L) := hS
      have HD : Hid (dblE 2 (U 1 L) 0 1 0 = 6 ∧ dblN 2 (U 1 L) 0 1 0 = U 1 L) := hD
      have HWt : Hid ((if linkE 2 0 1 = 0 then ((U 1 L (plc 2 0 1)).length : Int) else 0) = 256) := hWt
      have HS2 : Hid (sendE 2 (U 1 L) 1 0 p = 0 ∧ sendN 2 (U 1 L) 1 0 p = upd (U 1 L) 2 [(p, false)]) := hS2
      clear hS hD hWt hS2 hLl
      go_wp2_with fail
      refine (send_any F' nb 2 _ 0 1 _ p _ HWr.out.1 (H.out.below HWr.out.2.2)).mono ?_
      rintro e w3 ⟨rfl, F3, hn3, _, hF3, ht3⟩
      rw [HS.out.1]
      rw [HS.out.2] at hn3
      have HW3 : Hid (NetW w nb (U 1 L) F3 w3) := HWr.out.p hn3 hF3 ht3
      clear hn3 hF3 ht3 HS
      go_wp2_with fail
      refine (double_any F3 nb 2 _ 0 1 0 _ HW3.out.1).mono ?_
      rintro e w4 ⟨rfl, F4, hn4, _, hF4, ht4⟩
      rw [HD.out.1]
      rw [HD.out.2] at hn4
      have HW4 : Hid (NetW w nb (U 1 L) F4 w4) := HW3.out.p hn4 hF4 ht4
      clear hn4 hF4 ht4 HD HW3
      go_wp2_with fail
      refine (waiting_any F4 nb 2 _ 0 1 _ HW4.out.1).mono ?_
      rintro e w5 ⟨rfl, hb5⟩
      rw [HWt.out]
      have HW5 : Hid (NetW w nb (U 1 L) F4 w5) := HW4.out.below hb5
      clear hb5 HWt HW4
      go_wp2_with fail
      refine (send_any F4 nb 2 _ 1 0 _ p _ HW5.out.1 (H.out.below HW5.out.2.2)).mono ?_
      rintro e w6 ⟨rfl, F6, hn6, _, hF6, ht6⟩
      rw [HS2.out.1]
      rw [HS2.out.2] at hn6
      have HW6 : Hid (NetW w nb (upd (U 1 L) 2 [(p, false)]) F6 w6) := HW5.out.p hn6 hF6 ht6
      clear hn6 hF6 ht6 HS2 HW5
      by_cases hm0 : 0 ≤ more ∧ more < 256
      · obtain ⟨m, rfl⟩ := Int.eq_ofNat_of_zero_le hm0.1
        obtain ⟨C, hC⟩ : ∃ C, C = upd (U 1 L) 2 [((p, false) : Pc)] := ⟨_, rfl⟩
        have hC1 : C 1 = L := by rw [hC]; rfl
        rw [← hC] at HW6
        clear hC
        have hml : m < L.length := by have := HLl.out; omega
        have v1 := g_with lk01 pl01 hC1 hml
        have v2 := g_pc lk01 pl01 hC1 hml
        have v3 := g_lose lk01 pl01 hC1 hml
        rw [HLg.out m hml] at v2
        have HV : Hid (withE 2 C 0 1 (m : Int) = 0 ∧ pcAt 2 C 0 1 (m : Int) = (p, false) ∧ loseN 2 C 0 1 (m : Int) = upd C 1 (L.eraseIdx m)) := ⟨v1, v2, v3⟩
        have he1 : (L.eraseIdx m).length = 255 := by rw [List.length_eraseIdx_of_lt hml, HLl.out]
        have hd1 := g_dbl (B := upd C 1 (L.eraseIdx m)) (b := L.eraseIdx m) (k := 0) lk01 pl01 (upd_same _ _ _) (by omega) (by omega)
        have HD1 : Hid (dblE 2 (upd C 1 (L.eraseIdx m)) 0 1 0 = 0) := hd1.1
        obtain ⟨E, hE⟩ : ∃ E, E = L.eraseIdx m ++ [(L.eraseIdx m)[0]'(by omega)] := ⟨_, rfl⟩
        have hEl : E.length = 256 := by rw [hE, List.length_append, List.length_singleton]; omega
        have HD2 : Hid (dblN 2 (upd C 1 (L.eraseIdx m)) 0 1 0 = upd (upd C 1 (L.eraseIdx m)) 1 E) := by show _ = _; rw [hE]; exact hd1.2
        have hd2 := g_dblF (B := upd (upd C 1 (L.eraseIdx m)) 1 E) (b := E) (k := 0) lk01 pl01 (upd_same _ _ _) (by omega) (by omega)
        have HD3 : Hid (dblE 2 (upd (upd C 1 (L.eraseIdx m)) 1 E) 0 1 0 = 6) := hd2.1
        have m0 : ¬ ((m : Int) < 0) := by omega
        have m1 : (m : Int) < 256 := hm0.2
        clear v1 v2 v3 hC1 hml he1 hd1 hE hEl hd2
        go_wp2_with fail
        refine (deliver_any F6 nb 2 _ 0 1 _ _ HW6.out.1).mono ?_
        rintro e w7 ⟨vq, rfl, hfq, hs7⟩
        rw [HV.out.1]
        rw [HV.out.2.1] at hfq
        rw [HV.out.2.2] at hs7
        have HW7 : Hid (NetW w nb (upd C 1 (L.eraseIdx m)) F6 w7) := HW6.out.s hs7
        have hiq : IsB w7 vq p := hfq.isB hl1
        obtain ⟨aq, cq, eq⟩ := hiq.form
        subst eq
        have kq := conv_txt hiq
        have kp := conv_txt (H.out.below HW7.out.2.2)
        have qs : ((txt p).toList == (txt p).toList) = true := by simp
        generalize txt p = s at *
        clear hfq hs7 hiq HV
        go_wp2_with fail
        refine (double_any F6 nb 2 _ 0 1 0 _ HW7.out.1).mono ?_
        rintro e w8 ⟨rfl, F8, hn8, _, hF8, ht8⟩
        rw [HD1.out]
        rw [HD2.out] at hn8
        have HW8 : Hid (NetW w nb (upd (upd C 1 (L.eraseIdx m)) 1 E) F8 w8) := HW7.out.p hn8 hF8 ht8
        clear hn8 hF8 ht8 HD1 HD2
        go_wp2_with fail
        refine (double_any F8 nb 2 _ 0 1 0 _ HW8.out.1).mono ?_
        rintro e w9 ⟨rfl, F9, hn9, _, hF9, ht9⟩
        rw [HD3.out]
        have HB9 : Hid (Below w.heap.size w w9) := (HW8.out.p hn9 hF9 ht9).2.2
        clear hn9 hF9 ht9 HD3
        go_wp2_with fail
        refine (awake_any _).mono ?_
        rintro e w10 ⟨rfl, hb10⟩
        have HB10 : Hid (Below w.heap.size w w10) := HB9.out.trans (hb10.mono HB9.out.size)
        clear hb10
        go_wp2
        go_ret
        exact ⟨rfl, HB10.out⟩
      · have hm1 : more < 0 ∨ (0 ≤ more ∧ 256 ≤ more) := by omega
        clear hm0
        rcases hm1 with hm1 | ⟨hm1, hm2⟩
        all_goals (
          go_wp2_with fail
          refine (awake_any _).mono ?_
          rintro e w10 ⟨rfl, hb10⟩
          have HB10 : Hid (Below w.heap.size w w10) := HW6.out.2.2.trans (hb10.mono HW6.out.2.2.size)
          clear hb10
          go_wp2
          go_ret
          exact ⟨rfl, HB10.out⟩)

end Go.Proofs.Ytkpfijkpdgkphaa
