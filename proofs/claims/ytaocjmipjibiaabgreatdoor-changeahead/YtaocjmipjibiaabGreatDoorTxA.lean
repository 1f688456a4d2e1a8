/- What Text makes of any list of numbers, the program's and the document's. -/
import Derived.Test.YtaocjmipjibiaabGreatDoorCkU
import Derived.Test.YtaocjmipjibiaabGreatDoorPlainX
import Derived.Test.YtaocjmipjibiaabGreatDoorNumY
namespace Go.Proofs.YtaocjmipjibiaabGreatDoor
open Go.RowKit
set_option linter.unusedVariables false

theorem joinX : Builder.Extra Tryz.prog Tryz.lays156_ren where
  sizeBuilder := by kernel_rfl
  liesBuilder := by kernel_rfl
  t5 := Tryz.underlying5
  a5 := Tryz.isAgg5
  z5 := Tryz.sizeOf5
  v5 := Tryz.zeroValue5
  infoByte := by kernel_rfl
  cellsByte := by kernel_rfl
  sizeByte := by kernel_rfl
  neB5 := by decide
theorem infoStr : (Tryz.prog.info? 9).map (fun i => (i.zero, i.size, i.bytes)) = some (some (.string ⟨#[]⟩), 1, 16) := by kernel_rfl
/-- A number's numeral, as a text. -/
def word (x : Int) : ByteArray := ⟨(Lib.itoa x).toArray⟩
def wordsV (d : List Int) : List Value := d.map fun x => .string (word x)
theorem wordsV_snoc (d : List Int) (x : Int) : wordsV (d ++ [x]) = wordsV d ++ [.string (word x)] := by simp [wordsV]
theorem ownsRow_below {B : Nat} {w w' : World} {t : TypeId} {z n : Nat} {v : Value} {xs : List Value} (h : w.ownsRow B t z v n xs) (hb : Below w.heap.size w w') : w'.ownsRow B t z v n xs := by
  refine ⟨h.1, ?_⟩
  rcases h.2 with hn | ⟨g, cap, cur, hv, hg, hc, rest⟩
  · exact .inl hn
  · refine .inr ⟨g, cap, cur, hv, hg, ?_, rest⟩
    have hlt : g < w.heap.size := (Array.getElem?_eq_some_iff.1 hc).1
    rw [hb.block g hlt]
    exact hc
theorem ret_si {a b : ByteArray} {x y : Int} (h : a = b) (h2 : x = y) : Ending.returned (.tuple #[.string a, .int .i64 x]) = .returned (.tuple #[.string b, .int .i64 y]) := by rw [h, h2]

set_option maxHeartbeats 1000000 in
set_option maxRecDepth 100000 in
/-- strings.Join of numerals, with commas. -/
theorem join_any (B g cap : Nat) (T : List Int) (v : Value) (w : World) (hv : v = .slice (some ⟨g, 0, none⟩) T.length cap) (ho : w.ownsRow B 9 1 v T.length (wordsV T)) (hT : ∀ x ∈ T, 0 ≤ x ∧ x ≤ 1099511627776) (hl : T.length ≤ 64) :
    Calls Tryz.prog 20 #[.slice (some ⟨g, 0, none⟩) T.length cap, .string ⟨#[44]⟩] w fun e w' => e = .returned (.string ⟨(commaL T).toArray⟩) ∧ Below w.heap.size w w' := by
  subst hv
  have e1 : (T.map word).map (·.data.toList) = T.map Lib.itoa := by simp [word, Function.comp_def]
  have hj : Lib.join ((T.map word).map (·.data.toList)) (⟨#[44]⟩ : ByteArray).data.toList = commaL T := by rw [e1]; rfl
  have hlen := commaL_length T (fun x hx => by have := hT x hx; omega)
  have hcap : T.length ≤ cap := by
    rcases ho.2 with ⟨e, _⟩ | ⟨g', cap', cur, e, _, _, hc, _⟩
    · cases e
    · cases e; exact hc
  have := Any.strings_Join Tryz.lays156 joinX g 0 cap (T.map word) ⟨#[44]⟩ w (fun j x hx => by
    have hjl : j < T.length := by
      have := (List.getElem?_eq_some_iff.1 hx).1
      simpa using this
    rw [show 0 + j = j by omega, ho.cellAt j (by omega)]
    simp [hjl] at hx
    subst hx
    simp [wordsV, hjl]) (World.ownsRow.lt ho g rfl).2 (by simp; omega) (by simpa using hcap) (by rw [hj]; omega)
  rw [hj, List.length_map] at this
  exact this

set_option maxHeartbeats 2000000 in
set_option maxRecDepth 100000 in
theorem text_ok (v : Value) (d : List Int) (w : World) (h1 : IsI w v d) (hc : checkL d = 0) (he : Env w) :
    Calls Tryz.prog 39 #[v] w fun e w' => e = .returned (.tuple #[.string ⟨(textC d).toArray⟩, .int .i64 0]) ∧ Below w.heap.size w w' := by
  obtain ⟨i0, hi, hz0, hz1, hz2⟩ := info_parts infoStr
  have H1 : Hid (IsI w v d) := h1
  have HEnv : Hid (Env w) := he
  clear h1 he
  have HK : Hid (OkC (trimL d)) := ((checkL_ok d).1 hc).trim
  have HT0 : Hid (trimL d = [] → textC d = [45]) := fun h => textC_none hc h
  have HT1 : Hid (trimL d ≠ [] → textC d = commaL (trimL d)) := fun h => textC_some hc h
  go_enter Tryz.func39, Tryz.ntmps39
  go_wp2_with (go_at_call 53; refine (check_any _ _ _ H1.out).mono ?_; rintro e w' ⟨rfl, hw⟩; replace hw := hw.symm; subst hw)
  refine (trim_any _ _ _ H1.out).mono ?_
  rintro e w1 ⟨v4, rfl, ho4, hb4⟩
  generalize trimL d = T at *
  have hl := HK.out.1
  have hI := ho4.isI (by omega)
  obtain ⟨a4, c4, rfl, hc4, _, r4⟩ := hI
  have HR : Hid (T = [] ∨ ∃ b o, a4 = some ⟨b, o, none⟩ ∧ IntsAt w1 b o T) := r4
  have HB1 : Hid (Below w.heap.size w w1) := hb4
  have HO0 : Hid (w1.ownsRow w1.heap.size 9 1 (.slice none 0 0) 0 (wordsV (T.take 0))) := World.ownsRow_nil _ _ _ _
  clear r4 hb4 ho4 H1
  go_wp2
  go_loopw [5, 16] (fun wv i wr => ∃ k : Nat, k ≤ T.length ∧ i = .int .i64 (k : Int) ∧ Hid (wr.ownsRow w1.heap.size 9 1 wv k (wordsV (T.take k))) ∧ Hid (Below w1.heap.size w1 wr)) (fun _ i _ => T.length - (intOf i).toNat)
  case atStart => exact ⟨0, Nat.zero_le _, rfl, HO0, Below.refl _ _⟩
  case round =>
    obtain ⟨k, hk, rfl, HO, HB⟩ := hrel
    have hsz := HB.out.size
    by_cases hlt : k < T.length
    · obtain ⟨b1, o1, rfl, g1⟩ := HR.out.resolve_left (by intro e; subst e; simp at hlt)
      have x1 := (g1.below HB.out) k hlt
      clear g1
      have hx := HK.out.2 T[k] (List.getElem_mem hlt)
      obtain ⟨hx0, hx1⟩ := hx
      have k1 : (k : Int) < (T.length : Int) := by omega
      have k0 : (0 : Int) ≤ (k : Int) := by omega
      have HTS : Hid (T.take (k + 1) = T.take k ++ [T[k]]) := List.take_succ_eq_append_getElem hlt
      have HE2 : Hid (Env wr) := HEnv.out.below (HB1.out.trans (HB.out.mono HB1.out.size))
      generalize T[k] = x at *
      go_wp2_with (first
        | (go_at_call 15; refine (itoa_any x (by omega) (by omega) _ HE2.out).mono ?_; rintro e w2 ⟨rfl, hb2⟩; have HO2 : Hid (w2.ownsRow w1.heap.size 9 1 _ k (wordsV (T.take k))) := ownsRow_below HO.out hb2; have HB2 : Hid (Below w1.heap.size w1 w2) := HB.out.trans (hb2.mono hsz); have hsz2 := HB2.out.size; clear hb2)
        | (at_builtin; refine wpList_append_own _ rfl _ _ 43 rfl w1.heap.size 9 i0 (.string ⟨#[]⟩) 1 16 Tryz.underlying43 hi hz0 hz1 hz2 rfl (by decide) _ _ _ rfl (World.ownsRow.alloc HO2.out _) ⟨w2.heap.size, 0, none⟩ 1 1 [.string ⟨(Lib.itoa x).toArray⟩] rfl rfl (cell_one_new _ _ _) (fun x hx => by simp at hx; subst hx; rfl) (by unfold maxLen; omega) (by omega) (by simp; omega) ?_; intro v' w3 hown' hgrow3 hnil3))
      go_roundw
      case rel =>
        refine ⟨k + 1, by omega, by go_num, ?_, (HB2.out.alloc (by omega) _).grown hgrow3 (by simp; omega) (fun j e => (World.ownsRow.lt HO2.out j e).1)⟩
        show World.ownsRow _ _ _ _ _ _ _
        rw [HTS.out, wordsV_snoc]
        exact hown'
      case measure => simp [intOf]; omega
    · obtain rfl : k = T.length := by omega
      have HTK : Hid (T.take T.length = T) := List.take_length
      rw [HTK.out] at HO
      have bel : Below w.heap.size w wr := HB1.out.trans (HB.out.mono HB1.out.size)
      by_cases hT : T = []
      · have HE : Hid (textC d = [45]) := HT0.out hT
        have hT0 : T.length = 0 := by rw [hT]; rfl
        rcases HO.out.2 with ⟨e5, _⟩ | ⟨g, cap, cur, e5, hg, hcc, _⟩
        · subst e5
          clear hT HT0 HT1
          go_wp2
          go_ret2
          exact ⟨ret_si (by rw [HE.out]) rfl, bel⟩
        · subst e5
          have q0 : ((T.length : Int) == 0) = true := by simp [hT0]
          clear hT HT0 HT1 hT0
          go_wp2
          go_ret2
          exact ⟨ret_si (by rw [HE.out]) rfl, bel⟩
      · have HE : Hid (textC d = commaL T) := HT1.out hT
        have hTl : T.length ≠ 0 := fun h => hT (List.eq_nil_of_length_eq_zero h)
        rcases HO.out.2 with ⟨_, e⟩ | ⟨g, cap, cur, e5, hg, hcc, _⟩
        · exact absurd e hTl
        · subst e5
          have q0 : ((T.length : Int) == 0) = false := by simp; omega
          clear hT HT0 HT1 hTl hcc
          go_wp2_with fail
          refine (join_any w1.heap.size g cap T _ _ rfl HO.out (fun x hx => HK.out.2 x hx) hl).mono ?_
          rintro e w4 ⟨rfl, hb5⟩
          go_wp2
          go_ret2
          exact ⟨ret_si (by rw [HE.out]) rfl, bel.trans (hb5.mono bel.size)⟩

set_option maxHeartbeats 1000000 in
theorem text_no (v : Value) (d : List Int) (w : World) (h1 : IsI w v d) (hc : checkL d ≠ 0) :
    Calls Tryz.prog 39 #[v] w fun e w' => e = .returned (.tuple #[.string ⟨(textC d).toArray⟩, .int .i64 (checkL d)]) ∧ Below w.heap.size w w' := by
  have H1 : Hid (IsI w v d) := h1
  have q : (checkL d != 0) = true := by simp [hc]
  have HE : Hid (textC d = []) := textC_no hc
  clear h1 hc
  go_enter Tryz.func39, Tryz.ntmps39
  go_wp2_with (go_at_call 53; refine (check_any _ _ _ H1.out).mono ?_; rintro e w' ⟨rfl, hw⟩; replace hw := hw.symm; subst hw)
  go_ret2
  exact ⟨ret_si (by rw [HE.out]) rfl, Below.refl _ _⟩

/-- clock.Text. -/
theorem text_any (v : Value) (d : List Int) (w : World) (h1 : IsI w v d) (he : Env w) :
    Calls Tryz.prog 39 #[v] w fun e w' => e = .returned (.tuple #[.string ⟨(textC d).toArray⟩, .int .i64 (checkL d)]) ∧ Below w.heap.size w w' := by
  by_cases hc : checkL d = 0
  · rw [hc]; exact text_ok v d w h1 hc he
  · exact text_no v d w h1 hc

end Go.Proofs.YtaocjmipjibiaabGreatDoor
