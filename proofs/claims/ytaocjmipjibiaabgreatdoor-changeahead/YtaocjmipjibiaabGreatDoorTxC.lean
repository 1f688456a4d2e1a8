/- What strings.Cut does at a comma, and what clock.Parse makes of any text. -/
import Derived.Test.YtaocjmipjibiaabGreatDoorTxA
namespace Go.Proofs.YtaocjmipjibiaabGreatDoor
open Go.RowKit
set_option linter.unusedVariables false

theorem indexComma_not : ∀ (l : List UInt8), (44 : UInt8) ∉ l → Lib.indexByte l 44 = -1 := by
  intro l
  induction l with
  | nil => intro _; rfl
  | cons x y ih =>
    intro h
    simp only [List.mem_cons, not_or] at h
    unfold Lib.indexByte
    rw [if_neg (by simp; exact fun e => h.1 e.symm), ih h.2]
    rfl
theorem indexComma_at : ∀ (a b : List UInt8), (44 : UInt8) ∉ a → Lib.indexByte (a ++ 44 :: b) 44 = (a.length : Int) := by
  intro a b
  induction a with
  | nil => intro _; rfl
  | cons x y ih =>
    intro h
    simp only [List.mem_cons, not_or] at h
    rw [List.cons_append, Lib.indexByte, if_neg (by simp; exact fun e => h.1 e.symm), ih h.2, if_neg (by simp)]
    simp
theorem comma_exists : ∀ (l : List UInt8), (44 : UInt8) ∈ l → ∃ a b, l = a ++ 44 :: b ∧ (44 : UInt8) ∉ a := by
  intro l
  induction l with
  | nil => intro h; cases h
  | cons x y ih =>
    intro h
    by_cases hx : x = 44
    · exact ⟨[], y, by rw [hx]; rfl, by simp⟩
    · simp only [List.mem_cons] at h
      obtain ⟨a, b, e, hn⟩ := ih (h.resolve_left (fun e => hx e.symm))
      exact ⟨x :: a, b, by rw [e]; rfl, by simp only [List.mem_cons, not_or]; exact ⟨fun e => hx e.symm, hn⟩⟩

set_option maxHeartbeats 400000 in
theorem cutCIn_none (s : ByteArray) (h : (44 : UInt8) ∉ s.data.toList) (w : World) :
    Calls Tryz.prog 87 #[.string s, .string ⟨#[44]⟩] w fun e w' => e = .returned (.tuple #[.string s, .string ⟨#[]⟩, .bool false]) ∧ Below w.heap.size w w' := by
  have hi := indexComma_not _ h
  go_enter Tryz.func87, Tryz.ntmps87
  go_wp2_with fail
  refine (Any.stringslite_Index_one Tryz.lays219 s 44 _).mono ?_
  rintro e w1 ⟨rfl, rfl⟩
  go_wp2
  go_ret3
  exact ⟨rfl, Below.refl _ _⟩

set_option maxHeartbeats 400000 in
theorem cutCIn_at (s : ByteArray) (i : Nat) (hi : Lib.indexByte s.data.toList 44 = (i : Int)) (hr : i + 1 ≤ s.size) (hs : s.size ≤ 281474976710656) (w : World) :
    Calls Tryz.prog 87 #[.string s, .string ⟨#[44]⟩] w fun e w' => e = .returned (.tuple #[.string (s.extract 0 i), .string (s.extract (i + 1) s.size), .bool true]) ∧ Below w.heap.size w w' := by
  have c1 : (0 : Int) ≤ ↑i := by omega
  have c2 : (↑i : Int) ≤ ↑s.size := by omega
  have c3 : (0 : Int) ≤ ↑i + 1 := by omega
  have c4 : (↑i + 1 : Int) ≤ ↑s.size := by omega
  have HR : Hid (i + 1 ≤ s.size) := hr
  clear hr
  go_enter Tryz.func87, Tryz.ntmps87
  go_wp2_with fail
  refine (Any.stringslite_Index_one Tryz.lays219 s 44 _).mono ?_
  rintro e w1 ⟨rfl, rfl⟩
  rw [hi]
  go_wp2
  go_region
  go_wp2
  go_ret3
  exact ⟨rfl, (Below.refl _ _).drew⟩

/-- What a text is, cut at its first comma. -/
def CutC (s s1 s2 : ByteArray) (b : Bool) : Prop :=
  (b = false ∧ (44 : UInt8) ∉ s.data.toList ∧ s1 = s) ∨ (b = true ∧ s.data.toList = s1.data.toList ++ 44 :: s2.data.toList ∧ (44 : UInt8) ∉ s1.data.toList)

theorem cutCIn_any (s : ByteArray) (hs : s.size ≤ 281474976710656) (w : World) :
    Calls Tryz.prog 87 #[.string s, .string ⟨#[44]⟩] w fun e w' => ∃ s1 s2 b, e = .returned (.tuple #[.string s1, .string s2, .bool b]) ∧ CutC s s1 s2 b ∧ s1.size ≤ 281474976710656 ∧ s2.size ≤ 281474976710656 ∧ Below w.heap.size w w' := by
  by_cases h : (44 : UInt8) ∈ s.data.toList
  · obtain ⟨a, b, e, hn⟩ := comma_exists _ h
    have hz : s.size = a.length + (b.length + 1) := by
      have := congrArg List.length e
      simpa using this
    have g1 : (s.extract 0 a.length).data.toList = a := by rw [← ByteArray.toList_eq, Lib.extract_toList, e]; simp
    have g2 : (s.extract (a.length + 1) s.size).data.toList = b := by
      rw [← ByteArray.toList_eq, Lib.extract_toList, e, hz, List.drop_append, List.take_of_length_le (by simp; omega)]
      simp
    refine (cutCIn_at s a.length (by rw [e]; exact indexComma_at a b hn) (by omega) hs w).mono fun x w' ⟨hx, hb⟩ => ⟨_, _, _, hx, .inr ⟨rfl, ?_, ?_⟩, ?_, ?_, hb⟩
    · rw [g1, g2]; exact e
    · rw [g1]; exact hn
    · rw [ByteArray.size_extract]; omega
    · rw [ByteArray.size_extract]; omega
  · exact (cutCIn_none s h w).mono fun x w' ⟨hx, hb⟩ => ⟨_, _, _, hx, .inl ⟨rfl, h, rfl⟩, hs, by simp [ByteArray.size], hb⟩

set_option maxHeartbeats 400000 in
theorem cutC_any (s : ByteArray) (hs : s.size ≤ 281474976710656) (w : World) :
    Calls Tryz.prog 70 #[.string s, .string ⟨#[44]⟩] w fun e w' => ∃ s1 s2 b, e = .returned (.tuple #[.string s1, .string s2, .bool b]) ∧ CutC s s1 s2 b ∧ s1.size ≤ 281474976710656 ∧ s2.size ≤ 281474976710656 ∧ Below w.heap.size w w' := by
  go_enter Tryz.func70, Tryz.ntmps70
  go_wp2_with fail
  refine (cutCIn_any s hs _).mono ?_
  rintro e w1 ⟨s1, s2, b, rfl, h1, h2, h3, hb⟩
  have H1 : Hid (CutC s s1 s2 b) := h1
  clear h1
  go_wp2
  go_ret3
  exact ⟨s1, s2, b, rfl, H1.out, h2, h3, hb⟩

/-- A word that is no numeral: the text is no clock's. -/
theorem nums_bad {l : List UInt8} {out : List Int} {s s1 s2 : ByteArray} {b : Bool} {n : Int} (hl : l = preL out ++ s.data.toList) (hc : CutC s s1 s2 b) (hn : NumIs s1.data.toList n false) : NumsIs l [] false := by
  refine ⟨fun h => (by cases h), fun _ => ⟨rfl, fun d hd hok e => ?_⟩⟩
  rw [hl] at e
  obtain ⟨d', e1, h1, e2⟩ := pre_split out d _ e hd
  have hok' : ∀ x ∈ d', 0 ≤ x ∧ x ≤ 1099511627776 := fun x hx => hok.2 x (by rw [e1]; simp [hx])
  rcases hc with ⟨rfl, hc, rfl⟩ | ⟨rfl, hc, hc2⟩
  · obtain ⟨x, rfl, ex⟩ := word_last h1 hc e2
    have := hok' x (by simp)
    rw [itoa_nat x this.1] at ex
    exact hn.2 rfl x.toNat (by omega) ex
  · rw [hc] at e2
    obtain ⟨x, r, rfl, ex⟩ := word_of h1 hc2 e2
    have := hok' x (by simp)
    rw [itoa_nat x this.1] at ex
    exact hn.2 rfl x.toNat (by omega) ex
theorem nums_long {l : List UInt8} {out : List Int} {s : ByteArray} (hl : l = preL out ++ s.data.toList) (h64 : out.length = 64) : NumsIs l [] false := by
  refine ⟨fun h => (by cases h), fun _ => ⟨rfl, fun d hd hok e => ?_⟩⟩
  rw [hl] at e
  obtain ⟨d', e1, h1, e2⟩ := pre_split out d _ e hd
  have h2 := hok.1
  have h3 : d'.length ≠ 0 := fun h => h1 (List.eq_nil_of_length_eq_zero h)
  rw [e1, List.length_append] at h2
  omega
theorem ret_ob {a b : Value} {x y : Bool} (h : a = b) (h2 : x = y) : Ending.returned (.tuple #[a, .bool x]) = .returned (.tuple #[b, .bool y]) := by rw [h, h2]

set_option maxHeartbeats 2000000 in
set_option maxRecDepth 100000 in
/-- clock.parseNumbers. -/
theorem parseNumbers_any (s : ByteArray) (hs : s.size ≤ 281474976710656) (w : World) (he : Env w) :
    Calls Tryz.prog 85 #[.string s] w fun e w' => ∃ v out b, e = .returned (.tuple #[v, .bool b]) ∧ OwnI w.heap.size w' v out ∧ NumsIs s.data.toList out b ∧ Below w.heap.size w w' := by
  obtain ⟨i0, hi, hz0, hz1, hz2⟩ := info_parts infoInt
  have HEnv : Hid (Env w) := he
  clear he
  obtain ⟨L, hL⟩ : ∃ L, s.data.toList = L := ⟨_, rfl⟩
  rw [hL]
  have HL0 : Hid (L = preL [] ++ s.data.toList) := by show _ = _; rw [hL]; simp [preL]
  clear hL
  have HO0 : Hid (OwnI w.heap.size w (.slice none 0 0) []) := OwnI.nil0 w _
  go_enter Tryz.func85, Tryz.ntmps85
  go_wp2
  go_loopw [0, 4, 10] (fun sv ov i wr => ∃ (k : Nat) (out : List Int) (t : ByteArray), k ≤ 64 ∧ i = .int .i64 (k : Int) ∧ sv = .string t ∧ t.size ≤ 281474976710656 ∧ out.length = k ∧ Hid (L = preL out ++ t.data.toList) ∧ Hid (OwnI w.heap.size wr ov out) ∧ Hid (Below w.heap.size w wr)) (fun _ _ i _ => 64 - (intOf i).toNat)
  case atStart => exact ⟨0, [], s, Nat.zero_le _, rfl, rfl, hs, rfl, HL0, HO0, Below.refl _ _⟩
  case round =>
    obtain ⟨k, out, t, hk, rfl, rfl, ht, hlen, HL, HO, HB⟩ := hrel
    subst hlen
    have hsz := HB.out.size
    obtain ⟨ao, co, e0⟩ := HO.out.form
    subst e0
    have HE2 : Hid (Env wr) := HEnv.out.below HB.out
    by_cases hlt : out.length < 64
    · have k1 : (out.length : Int) < 64 := by omega
      go_wp2_with fail
      refine (cutC_any t ht _).mono ?_
      rintro e w1 ⟨s1, s2, b, rfl, hc, hs1, hs2, hb1⟩
      have HC : Hid (CutC t s1 s2 b) := hc
      have HO1 : Hid (OwnI w.heap.size w1 (.slice ao out.length co) out) := HO.out.below hb1
      have HB1 : Hid (Below w.heap.size w w1) := HB.out.trans (hb1.mono hsz)
      have HE3 : Hid (Env w1) := HEnv.out.below HB1.out
      clear hc hb1
      go_wp2_with fail
      refine (parseNumber_any s1 hs1 _ HE3.out).mono ?_
      rintro e w2 ⟨n, ok, rfl, hn, hb2⟩
      have HO2 : Hid (OwnI w.heap.size w2 (.slice ao out.length co) out) := HO1.out.below hb2
      have HB2 : Hid (Below w.heap.size w w2) := HB1.out.trans (hb2.mono HB1.out.size)
      have hsz2 := HB2.out.size
      clear hb2
      cases ok
      · have HN : Hid (NumsIs L [] false) := nums_bad HL.out HC.out hn
        clear hn
        go_wp2
        go_ret2
        exact ⟨_, _, _, rfl, OwnI.nil0 _ _, HN.out, HB2.out⟩
      · have HN : Hid (s1.data.toList = Lib.itoa n) := (hn.1 rfl).1
        clear hn
        cases b
        · have HE : Hid (NumsIs L (out ++ [n]) true) := by
            refine ⟨fun _ => ⟨by simp, by simp; omega, ?_⟩, fun h => (by cases h)⟩
            rcases HC.out with ⟨_, _, e⟩ | ⟨e, _⟩
            · rw [commaL_snoc, ← HN.out, e]; exact HL.out
            · cases e
          go_wp2_with (at_builtin; refine wpList_append_own _ rfl _ _ 24 rfl w.heap.size 3 i0 (.int .i64 0) 1 8 Tryz.underlying24 hi hz0 hz1 hz2 rfl (by decide) _ _ _ rfl (World.ownsRow.alloc HO2.out _) ⟨w2.heap.size, 0, none⟩ 1 1 [.int .i64 n] rfl rfl (cell_one_new _ _ _) (fun x hx => by simp at hx; subst hx; rfl) (by unfold maxLen; omega) (by omega) (by simp; omega) ?_; intro v' w3 hown' hgrow3 hnil3)
          go_ret2
          exact ⟨_, _, _, rfl, OwnI.snoc hown', HE.out, (HB2.out.alloc (by omega) _).grown hgrow3 (by simp; omega) (fun j e => HO2.out.block j e)⟩
        · have HE : Hid (L = preL (out ++ [n]) ++ s2.data.toList) := by
            show _ = _
            rcases HC.out with ⟨e, _⟩ | ⟨_, e, _⟩
            · cases e
            · rw [HL.out, e, preL_snoc, HN.out]; simp
          go_wp2_with (at_builtin; refine wpList_append_own _ rfl _ _ 24 rfl w.heap.size 3 i0 (.int .i64 0) 1 8 Tryz.underlying24 hi hz0 hz1 hz2 rfl (by decide) _ _ _ rfl (World.ownsRow.alloc HO2.out _) ⟨w2.heap.size, 0, none⟩ 1 1 [.int .i64 n] rfl rfl (cell_one_new _ _ _) (fun x hx => by simp at hx; subst hx; rfl) (by unfold maxLen; omega) (by omega) (by simp; omega) ?_; intro v' w3 hown' hgrow3 hnil3)
          go_roundw
          case rel => exact ⟨out.length + 1, out ++ [n], s2, by omega, by go_num, rfl, hs2, by simp, HE, OwnI.snoc hown', (HB2.out.alloc (by omega) _).grown hgrow3 (by simp; omega) (fun j e => HO2.out.block j e)⟩
          case measure => simp [intOf]; omega
    · have HN : Hid (NumsIs L [] false) := nums_long HL.out (by omega)
      go_wp2
      go_ret2
      exact ⟨_, _, _, rfl, OwnI.nil0 _ _, HN.out, HB.out⟩

/-- Is the last number not 0? -/
def trimmedB (d : List Int) : Bool := decide (d = [] ∨ d.getD (d.length - 1) 0 ≠ 0)

set_option maxHeartbeats 1000000 in
/-- clock.isTrimmed. -/
theorem isTrimmed_any (v : Value) (d : List Int) (w : World) (h1 : IsI w v d) :
    Calls Tryz.prog 86 #[v] w fun e w' => e = .returned (.bool (trimmedB d)) ∧ w' = w := by
  obtain ⟨a1, c1, rfl, hc1, hl1, r1⟩ := h1
  by_cases h0 : d = []
  · have HE : Hid (trimmedB d = true) := by show _ = _; simp [trimmedB, h0]
    have q : ((d.length : Int) == 0) = true := by simp [h0]
    clear h0 r1
    go_enter Tryz.func86, Tryz.ntmps86
    go_wp2
    go_ret
    exact ⟨ret_b HE.out.symm, rfl⟩
  · have hn : d.length ≠ 0 := fun h => h0 (List.eq_nil_of_length_eq_zero h)
    obtain ⟨b1, o1, rfl, g1⟩ := r1.resolve_left h0
    obtain ⟨j, hj⟩ : ∃ j, d.length = j + 1 := ⟨d.length - 1, by omega⟩
    have x1 := g1 j (by omega)
    have HE : Hid (trimmedB d = decide (d[j] ≠ 0)) := by
      show _ = _
      have : d.getD (d.length - 1) 0 = d[j] := by rw [← getD_at]; congr 1; omega
      simp only [trimmedB, this, h0, false_or]
    clear g1 r1 h0
    have k1 : (j : Int) < ((j + 1 : Nat) : Int) := by omega
    have k0 : (0 : Int) ≤ (j : Int) := by omega
    by_cases hx : d[j] = 0
    · have HV : Hid (trimmedB d = false) := by show _ = _; rw [HE.out]; simp [hx]
      rw [hx] at x1
      clear hx
      rw [hj]
      have q : (((j + 1 : Nat) : Int) == 0) = false := by simp; omega
      go_enter Tryz.func86, Tryz.ntmps86
      go_wp2
      go_ret
      exact ⟨ret_b HV.out.symm, rfl⟩
    · have HV : Hid (trimmedB d = true) := by show _ = _; rw [HE.out]; simp [hx]
      have q2 : (d[j] != 0) = true := by simp [hx]
      clear hx
      rw [hj]
      have q : (((j + 1 : Nat) : Int) == 0) = false := by simp; omega
      go_enter Tryz.func86, Tryz.ntmps86
      go_wp2
      go_ret
      exact ⟨ret_b HV.out.symm, rfl⟩

theorem parseC_bad1 {l : List UInt8} (h : l ≠ [45]) (hn : ∀ d, d ≠ [] → OkC d → l ≠ commaL d) : ParseC l [] 2 := .inr (.inr ⟨⟨h, fun d g => hn d g.1 g.2.1⟩, rfl, rfl⟩)
theorem parseC_bad2 {l : List UInt8} {out : List Int} (h : l ≠ [45]) (ho : out ≠ []) (hl : l = commaL out) (hb : ¬ GoodC out) : ParseC l [] 2 :=
  .inr (.inr ⟨⟨h, fun d g e => hb (by rw [commaL_inj ho g.1 (hl.symm.trans e)]; exact g)⟩, rfl, rfl⟩)

set_option maxHeartbeats 2000000 in
set_option maxRecDepth 100000 in
/-- clock.Parse. -/
theorem parseK_any (s : ByteArray) (hs : s.size ≤ 281474976710656) (w : World) (he : Env w) :
    Calls Tryz.prog 69 #[.string s] w fun e w' => ∃ v d k, e = .returned (.tuple #[v, .int .i64 k]) ∧ OwnI w.heap.size w' v d ∧ d.length ≤ 64 ∧ ParseC s.data.toList d k ∧ Below w.heap.size w w' := by
  by_cases h1 : s.data.toList = [45]
  · have q1 : (s.toList == [45]) = true := by rw [ByteArray.toList_eq, h1]; rfl
    have H1 : Hid (s.data.toList = [45]) := h1
    clear h1
    go_enter Tryz.func69, Tryz.ntmps69
    go_wp2
    go_ret2
    exact ⟨_, [], _, rfl, OwnI.nil0 _ _, by simp, .inl ⟨H1.out, rfl, rfl⟩, Below.refl _ _⟩
  · have q1 : (s.toList == [45]) = false := by rw [ByteArray.toList_eq, beq_eq_false_iff_ne]; exact h1
    have H1 : Hid (¬ s.data.toList = [45]) := h1
    clear h1
    go_enter Tryz.func69, Tryz.ntmps69
    go_wp2_with fail
    refine (parseNumbers_any s hs _ he).mono ?_
    rintro e w1 ⟨v, out, b, rfl, ho, hN, hb⟩
    have HO : Hid (OwnI w.heap.size w1 v out) := ho
    have HN : Hid (NumsIs s.data.toList out b) := hN
    clear ho hN
    cases b
    · have HP : Hid (ParseC s.data.toList [] 2) := parseC_bad1 H1.out (HN.out.2 rfl).2
      go_wp2
      go_ret2
      exact ⟨_, [], _, rfl, OwnI.nil0 _ _, by simp, HP.out, hb⟩
    · obtain ⟨g1, g2, g3⟩ := HN.out.1 rfl
      have HI : Hid (IsI w1 v out) := HO.out.isI (by omega)
      have HG : Hid (s.data.toList = commaL out) := g3
      have HG1 : Hid (out ≠ []) := g1
      clear g3 HN g1
      by_cases hc : checkL out = 0
      · cases ht : trimmedB out
        · have HP : Hid (ParseC s.data.toList [] 2) := parseC_bad2 H1.out HG1.out HG.out (fun g => by
            have : trimmedB out = true := by simp only [trimmedB, decide_eq_true_eq]; exact .inr g.2.2
            rw [this] at ht; cases ht)
          go_wp2_with (first
            | (go_at_call 53; refine (check_any _ _ _ HI.out).mono ?_; rintro e w' ⟨rfl, hw⟩; replace hw := hw.symm; subst hw)
            | (go_at_call 86; refine (isTrimmed_any _ _ _ HI.out).mono ?_; rintro e w' ⟨rfl, hw⟩; replace hw := hw.symm; subst hw))
          go_ret2
          exact ⟨_, [], _, rfl, OwnI.nil0 _ _, by simp, HP.out, hb⟩
        · have HP : Hid (ParseC s.data.toList out 0) := .inr (.inl ⟨⟨HG1.out, (checkL_ok out).1 hc, by
            simp only [trimmedB, decide_eq_true_eq] at ht
            exact ht.resolve_left HG1.out⟩, HG.out, rfl⟩)
          go_wp2_with (first
            | (go_at_call 53; refine (check_any _ _ _ HI.out).mono ?_; rintro e w' ⟨rfl, hw⟩; replace hw := hw.symm; subst hw)
            | (go_at_call 86; refine (isTrimmed_any _ _ _ HI.out).mono ?_; rintro e w' ⟨rfl, hw⟩; replace hw := hw.symm; subst hw))
          go_ret2
          exact ⟨_, out, _, rfl, HO.out, g2, HP.out, hb⟩
      · have HP : Hid (ParseC s.data.toList [] 2) := parseC_bad2 H1.out HG1.out HG.out (fun g => hc ((checkL_ok out).2 g.2.1))
        have q : (checkL out != 0) = true := by simp [hc]
        clear hc
        go_wp2_with (go_at_call 53; refine (check_any _ _ _ HI.out).mono ?_; rintro e w' ⟨rfl, hw⟩; replace hw := hw.symm; subst hw)
        go_ret2
        exact ⟨_, [], _, rfl, OwnI.nil0 _ _, by simp, HP.out, hb⟩

end Go.Proofs.YtaocjmipjibiaabGreatDoor
