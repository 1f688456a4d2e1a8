/- What the document's Parse makes of any text. -/
import Derived.Test.YtjcpnjobfedejabDoorTxC
namespace Go.Proofs.YtjcpnjobfedejabDoor
open Go.RowKit
set_option linter.unusedVariables false

/-- A word that is no numeral up to MaxCount, behind numerals: the text is no clock's. -/
theorem bad_word {L wd rest : List UInt8} {out : List Int} (hL : L = preL out ++ (wd ++ rest)) (hr : rest = [] ∨ ∃ r, rest = 44 :: r) (hw : (44 : UInt8) ∉ wd) (hn : ∀ u : Nat, u ≤ 1099511627776 → wd ≠ Lib.decDigits u) : ∀ d, d ≠ [] → OkC d → L ≠ commaL d := fun d hd hok e => by
  rw [hL] at e
  obtain ⟨d', e1, h1, e2⟩ := pre_split out d _ e hd
  have hok' : ∀ x ∈ d', 0 ≤ x ∧ x ≤ 1099511627776 := fun x hx => hok.2 x (by rw [e1]; simp [hx])
  rcases hr with rfl | ⟨r, rfl⟩
  · rw [List.append_nil] at e2
    obtain ⟨x, rfl, ex⟩ := word_last h1 hw e2
    have := hok' x (by simp)
    rw [itoa_nat x this.1] at ex
    exact hn x.toNat (by omega) ex
  · obtain ⟨x, r', rfl, ex⟩ := word_of h1 hw e2
    have := hok' x (by simp)
    rw [itoa_nat x this.1] at ex
    exact hn x.toNat (by omega) ex
theorem bad_long {L s : List UInt8} {out : List Int} (hL : L = preL out ++ s) (h64 : out.length = 64) : ∀ d, d ≠ [] → OkC d → L ≠ commaL d := fun d hd hok e => by
  rw [hL] at e
  obtain ⟨d', e1, h1, e2⟩ := pre_split out d _ e hd
  have h2 := hok.1
  have h3 : d'.length ≠ 0 := fun h => h1 (List.eq_nil_of_length_eq_zero h)
  rw [e1, List.length_append] at h2
  omega

/-- What has been read: the numbers ahead of place f, and no comma from there on to k; or all. -/
def ReadTo (L : List UInt8) (out : List Int) (f k : Nat) : Prop :=
  (k ≤ L.length ∧ f ≤ k ∧ L.take f = preL out ∧ (44 : UInt8) ∉ (L.drop f).take (k - f)) ∨ (k = L.length + 1 ∧ out ≠ [] ∧ L = commaL out)
theorem readTo_split {L : List UInt8} {f k : Nat} (hf : f ≤ k) : L = L.take f ++ ((L.drop f).take (k - f) ++ L.drop k) := by
  conv => lhs; rw [← List.take_append_drop f L]
  congr 1
  conv => lhs; rw [← List.take_append_drop (k - f) (L.drop f)]
  congr 1
  rw [List.drop_drop]
  congr 1
  omega
theorem readTo_on {L : List UInt8} {out : List Int} {f k : Nat} (h : ReadTo L out f k) (hk : k < L.length) (hc : L[k] ≠ 44) : ReadTo L out f (k + 1) := by
  rcases h with ⟨h1, h2, h3, h4⟩ | ⟨h1, _⟩
  · refine .inl ⟨by omega, by omega, h3, ?_⟩
    rw [show k + 1 - f = (k - f) + 1 by omega, List.take_succ_eq_append_getElem (by rw [List.length_drop]; omega), List.mem_append, List.mem_singleton, not_or]
    refine ⟨h4, ?_⟩
    rw [List.getElem_drop]
    intro e
    exact hc (by rw [e]; congr 1; omega)
  · omega
theorem readTo_comma {L wd : List UInt8} {out : List Int} {f k : Nat} {n : Int} (h : ReadTo L out f k) (hk : k < L.length) (hc : L[k] = 44) (hw : wd = (L.drop f).take (k - f)) (hn : wd = Lib.itoa n) : ReadTo L (out ++ [n]) (k + 1) (k + 1) := by
  rcases h with ⟨h1, h2, h3, h4⟩ | ⟨h1, _⟩
  · refine .inl ⟨by omega, Nat.le_refl _, ?_, by simp⟩
    rw [List.take_succ_eq_append_getElem hk, hc, preL_snoc, ← h3, ← hn, hw]
    congr 1
    conv => lhs; rw [show k = f + (k - f) by omega]
    rw [List.take_add]
  · omega
theorem readTo_end {L wd : List UInt8} {out : List Int} {f k : Nat} {n : Int} (h : ReadTo L out f k) (hk : k = L.length) (hw : wd = (L.drop f).take (k - f)) (hn : wd = Lib.itoa n) (g : Nat) : ReadTo L (out ++ [n]) g (k + 1) := by
  rcases h with ⟨h1, h2, h3, h4⟩ | ⟨h1, _⟩
  · refine .inr ⟨by omega, by simp, ?_⟩
    rw [commaL_snoc, ← h3, ← hn, hw]
    conv => lhs; rw [← List.take_append_drop f L]
    congr 1
    rw [List.take_of_length_le (by rw [List.length_drop]; omega)]
  · omega
theorem whole_itoa {l : List UInt8} {n : Int} (h : WholeIs l n true) : l = Lib.itoa n ∧ 0 ≤ n ∧ n ≤ 1099511627776 := by
  obtain ⟨a, b, c⟩ := h.1 rfl
  exact ⟨by rw [itoa_nat n a]; exact c, a, b⟩

set_option maxHeartbeats 4000000 in
set_option maxRecDepth 100000 in
/-- The document's Parse. -/
theorem refParse_any (s : ByteArray) (hs : s.size ≤ 281474976710656) (w : World) :
    Calls Tryd.prog 8 #[.string s] w fun e w' => ∃ v d k, e = .returned (.tuple #[v, .int .i64 k]) ∧ OwnI w.heap.size w' v d ∧ d.length ≤ 64 ∧ ParseC s.data.toList d k ∧ Below w.heap.size w w' := by
  obtain ⟨i0, hi, hz0, hz1, hz2⟩ := info_parts infoInt
  have hsl : s.data.toList.length = s.size := by simp
  by_cases h1 : s.data.toList = [45]
  · have q1 : (s.toList == [45]) = true := by rw [ByteArray.toList_eq, h1]; rfl
    have H1 : Hid (s.data.toList = [45]) := h1
    clear h1
    go_enter Tryd.func8, Tryd.ntmps8
    go_wp2
    go_ret2
    exact ⟨_, [], _, rfl, OwnI.nil0 _ _, by simp, .inl ⟨H1.out, rfl, rfl⟩, Below.refl _ _⟩
  · have q1 : (s.toList == [45]) = false := by rw [ByteArray.toList_eq, beq_eq_false_iff_ne]; exact h1
    have H1 : Hid (¬ s.data.toList = [45]) := h1
    have HSL : Hid (s.data.toList.length = s.size) := hsl
    clear h1 hsl
    have HO0 : Hid (OwnI w.heap.size (w.alloc (.cells #[] 3)) (.slice (some ⟨w.heap.size, 0, none⟩) 0 0) []) := OwnI.empty w _ (Nat.le_refl _)
    have HB0 : Hid (Below w.heap.size w (w.alloc (.cells #[] 3))) := (Below.refl _ _).alloc (Nat.le_refl _) _
    go_enter Tryd.func8, Tryd.ntmps8
    go_wp2
    go_loopw [4, 5, 6] (fun ov fv iv wr => ∃ (k f : Nat) (out : List Int), k ≤ s.size + 1 ∧ f ≤ s.size + 1 ∧ iv = .int .i64 (k : Int) ∧ fv = .int .i64 (f : Int) ∧ out.length ≤ 64 ∧ Hid (∀ x ∈ out, 0 ≤ x ∧ x ≤ 1099511627776) ∧ Hid (ReadTo s.data.toList out f k) ∧ Hid (OwnI w.heap.size wr ov out) ∧ Hid (Below w.heap.size w wr)) (fun _ _ iv _ => s.size + 1 - (intOf iv).toNat)
    case atStart => exact ⟨0, 0, [], by omega, by omega, rfl, rfl, by simp, fun x hx => by simp at hx, .inl ⟨Nat.zero_le _, Nat.le_refl _, by simp [preL], by simp⟩, HO0, HB0⟩
    case round =>
      obtain ⟨k, f, out, hk, hf, rfl, rfl, hlen, HA, HRT, HO, HB⟩ := hrel
      have hsz := HB.out.size
      by_cases hle : k ≤ s.size
      · obtain ⟨ao, co, e0⟩ := HO.out.form
        subst e0
        have hfk : f ≤ k := by
          rcases HRT.out with ⟨_, h, _⟩ | ⟨h, _⟩
          · exact h
          · rw [HSL.out] at h; omega
        have HP0 : Hid (s.data.toList.take f = preL out ∧ (44 : UInt8) ∉ (s.data.toList.drop f).take (k - f)) := by
          rcases HRT.out with ⟨_, _, h, h'⟩ | ⟨h, _⟩
          · exact ⟨h, h'⟩
          · rw [HSL.out] at h; omega
        have HL : Hid (s.data.toList = preL out ++ ((s.data.toList.drop f).take (k - f) ++ s.data.toList.drop k)) := by
          show _ = _
          have := readTo_split (L := s.data.toList) hfk
          rw [HP0.out.1] at this
          exact this
        have HWD : Hid ((s.extract f k).data.toList = (s.data.toList.drop f).take (k - f)) := by show _ = _; rw [← ByteArray.toList_eq, Lib.extract_toList]
        have f0 : (0 : Int) ≤ (f : Int) := by omega
        have fk : (f : Int) ≤ (k : Int) := by omega
        have ks : (k : Int) ≤ (s.size : Int) := by omega
        by_cases hlt : k < s.size
        · have k1 : (k : Int) < (s.size : Int) := by omega
          have k0 : (0 : Int) ≤ (k : Int) := by omega
          have hkl : k < s.data.toList.length := by rw [HSL.out]; exact hlt
          have hsk : s.data.toList[k] = s[k] := by rfl
          by_cases hc : s[k] = 44
          · have d1 : ((s[k].toNat : Int) != 44) = false := by rw [hc]; rfl
            have HC : Hid (s.data.toList[k]'hkl = 44) := hsk.trans hc
            have HREST : Hid (s.data.toList.drop k = 44 :: s.data.toList.drop (k + 1)) := by
              show _ = _
              rw [List.drop_eq_getElem_cons hkl, HC.out]
            clear hc hsk
            go_wp2_with fail
            refine (whole_any _ _).mono ?_
            rintro e w' ⟨n, ok, rfl, hW, hw⟩
            replace hw := hw.symm
            subst hw
            have HW : Hid (WholeIs (s.extract f k).data.toList n ok) := hW
            clear hW
            cases ok
            · have HN : Hid (ParseC s.data.toList [] 2) := parseC_bad1 H1.out (bad_word HL.out (.inr ⟨_, HREST.out⟩) HP0.out.2 (by rw [← HWD.out]; exact HW.out.2 rfl))
              go_wp2
              go_ret2
              exact ⟨_, [], _, rfl, OwnI.nil0 _ _, by simp, HN.out, HB.out⟩
            · obtain ⟨hwd, hn0, hn1⟩ := whole_itoa HW.out
              have HWN : Hid ((s.extract f k).data.toList = Lib.itoa n) := hwd
              clear hwd HW
              by_cases h64 : out.length = 64
              · have HN : Hid (ParseC s.data.toList [] 2) := parseC_bad1 H1.out (bad_long HL.out h64)
                have q64 : ((out.length : Int) == 64) = true := by simp; omega
                clear h64
                go_wp2
                go_ret2
                exact ⟨_, [], _, rfl, OwnI.nil0 _ _, by simp, HN.out, HB.out⟩
              · have q64 : ((out.length : Int) == 64) = false := by simp; omega
                have HR2 : Hid (ReadTo s.data.toList (out ++ [n]) (k + 1) (k + 1)) := readTo_comma HRT.out hkl HC.out HWD.out HWN.out
                have HA2 : Hid (∀ x ∈ out ++ [n], 0 ≤ x ∧ x ≤ 1099511627776) := fun x hx => by
                  rcases List.mem_append.1 hx with h | h
                  · exact HA.out x h
                  · simp at h; subst h; exact ⟨hn0, hn1⟩
                go_wp2_with (at_builtin; refine wpList_append_own _ rfl _ _ 22 rfl w.heap.size 3 i0 (.int .i64 0) 1 8 Tryd.underlying22 hi hz0 hz1 hz2 rfl (by decide) _ _ _ rfl (World.ownsRow.alloc HO.out _) ⟨wr.heap.size, 0, none⟩ 1 1 [.int .i64 n] rfl rfl (cell_one_new _ _ _) (fun x hx => by simp at hx; subst hx; rfl) (by unfold maxLen; omega) (by omega) (by simp; omega) ?_; intro v' w3 hown' hgrow3 hnil3)
                go_roundw
                case rel => exact ⟨k + 1, k + 1, out ++ [n], by omega, by omega, by go_num, by go_num, by simp; omega, HA2, HR2, OwnI.snoc hown', (HB.out.alloc (by omega) _).grown hgrow3 (by simp; omega) (fun j e => HO.out.block j e)⟩
                case measure => simp [intOf]; omega
          · have d1 : ((s[k].toNat : Int) != 44) = true := by
              simp only [bne_iff_ne, ne_eq]
              intro h
              exact hc (UInt8.toNat_inj.1 (by have : s[k].toNat = 44 := by omega
                                              rw [this]; rfl))
            have HR2 : Hid (ReadTo s.data.toList out f (k + 1)) := readTo_on HRT.out hkl (by rw [hsk]; exact hc)
            clear hc hsk
            go_wp2
            go_roundw
            case rel => exact ⟨k + 1, f, out, by omega, by omega, by go_num, rfl, hlen, HA, HR2, HO, HB⟩
            case measure => simp [intOf]; omega
        · have hkz : k = s.size := by omega
          have kn : ¬ (k : Int) < (s.size : Int) := by omega
          have HREST : Hid (s.data.toList.drop k = []) := by show _ = _; rw [List.drop_eq_nil_iff, HSL.out]; omega
          have HKZ : Hid (k = s.data.toList.length) := by show _ = _; rw [HSL.out]; exact hkz
          clear hkz
          go_wp2_with fail
          refine (whole_any _ _).mono ?_
          rintro e w' ⟨n, ok, rfl, hW, hw⟩
          replace hw := hw.symm
          subst hw
          have HW : Hid (WholeIs (s.extract f k).data.toList n ok) := hW
          clear hW
          cases ok
          · have HN : Hid (ParseC s.data.toList [] 2) := parseC_bad1 H1.out (bad_word HL.out (.inl HREST.out) HP0.out.2 (by rw [← HWD.out]; exact HW.out.2 rfl))
            go_wp2
            go_ret2
            exact ⟨_, [], _, rfl, OwnI.nil0 _ _, by simp, HN.out, HB.out⟩
          · obtain ⟨hwd, hn0, hn1⟩ := whole_itoa HW.out
            have HWN : Hid ((s.extract f k).data.toList = Lib.itoa n) := hwd
            clear hwd HW
            by_cases h64 : out.length = 64
            · have HN : Hid (ParseC s.data.toList [] 2) := parseC_bad1 H1.out (bad_long HL.out h64)
              have q64 : ((out.length : Int) == 64) = true := by simp; omega
              clear h64
              go_wp2
              go_ret2
              exact ⟨_, [], _, rfl, OwnI.nil0 _ _, by simp, HN.out, HB.out⟩
            · have q64 : ((out.length : Int) == 64) = false := by simp; omega
              have HR2 : Hid (ReadTo s.data.toList (out ++ [n]) (k + 1) (k + 1)) := readTo_end HRT.out HKZ.out HWD.out HWN.out _
              have HA2 : Hid (∀ x ∈ out ++ [n], 0 ≤ x ∧ x ≤ 1099511627776) := fun x hx => by
                rcases List.mem_append.1 hx with h | h
                · exact HA.out x h
                · simp at h; subst h; exact ⟨hn0, hn1⟩
              go_wp2_with (at_builtin; refine wpList_append_own _ rfl _ _ 22 rfl w.heap.size 3 i0 (.int .i64 0) 1 8 Tryd.underlying22 hi hz0 hz1 hz2 rfl (by decide) _ _ _ rfl (World.ownsRow.alloc HO.out _) ⟨wr.heap.size, 0, none⟩ 1 1 [.int .i64 n] rfl rfl (cell_one_new _ _ _) (fun x hx => by simp at hx; subst hx; rfl) (by unfold maxLen; omega) (by omega) (by simp; omega) ?_; intro v' w3 hown' hgrow3 hnil3)
              go_roundw
              case rel => exact ⟨k + 1, k + 1, out ++ [n], by omega, by omega, by go_num, by go_num, by simp; omega, HA2, HR2, OwnI.snoc hown', (HB.out.alloc (by omega) _).grown hgrow3 (by simp; omega) (fun j e => HO.out.block j e)⟩
              case measure => simp [intOf]; omega
      · have kn : ¬ (k : Int) ≤ (s.size : Int) := by omega
        obtain ⟨hne, hl⟩ : out ≠ [] ∧ s.data.toList = commaL out := by
          rcases HRT.out with ⟨h, _⟩ | ⟨_, h⟩
          · rw [HSL.out] at h; omega
          · exact h
        obtain ⟨e, y, rfl⟩ : ∃ e y, out = e ++ [y] := ⟨out.dropLast, out.getLast hne, (List.dropLast_concat_getLast _).symm⟩
        have hI := HO.out.isI (by omega)
        obtain ⟨a1, c1, rfl, hc1, _, r1⟩ := hI
        obtain ⟨b1, o1, rfl, g1⟩ := r1.resolve_left hne
        have x1 := g1 e.length (by simp)
        simp at x1
        have HLL : Hid (s.data.toList = commaL (e ++ [y])) := hl
        have HLE : Hid ((e ++ [y]).length ≤ 64) := hlen
        have HNE : Hid (e ++ [y] ≠ []) := hne
        have hle2 : e.length + 1 ≤ 64 := by simpa using hlen
        have k1 : (e.length : Int) < (e.length : Int) + 1 := by omega
        have k0 : (0 : Int) ≤ (e.length : Int) := by omega
        clear g1 r1 hl hne hlen hc1
        by_cases hy : y = 0
        · have HP : Hid (ParseC s.data.toList [] 2) := parseC_bad2 H1.out HNE.out HLL.out (fun g => g.2.2 (by simp [hy]))
          subst hy
          go_wp2
          go_ret2
          exact ⟨_, [], _, rfl, OwnI.nil0 _ _, by simp, HP.out, HB.out⟩
        · have HP : Hid (ParseC s.data.toList (e ++ [y]) 0) := .inr (.inl ⟨⟨HNE.out, ⟨HLE.out, HA.out⟩, by simp [hy]⟩, HLL.out, rfl⟩)
          have q0 : (y == 0) = false := by simp [hy]
          clear hy
          go_wp2
          go_ret2
          have h5 := HO.out
          rw [show (e ++ [y]).length = e.length + 1 by simp] at h5
          exact ⟨_, e ++ [y], _, rfl, h5, HLE.out, HP.out, HB.out⟩

end Go.Proofs.YtjcpnjobfedejabDoor
