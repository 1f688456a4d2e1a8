/- What follows of a log: it is closed; a part of a history, two parts of it together; what somebody lacks. -/
import Derived.Test.YtcnolipgmpjcbabPlainL
namespace Go.Proofs.Ytcnolipgmpjcbab
set_option linter.unusedVariables false

theorem root_right0 {c r : Int} (h : rootB c r = true) (h2 : rightB c r = true) : False := by
  simp only [rootB, rightB, decide_eq_true_eq] at h h2; omega
theorem ahead_less0 {c r c2 r2 : Int} (h : aheadB c r c2 r2 = true) : lessS c r c2 r2 = true := by
  unfold aheadB at h
  simp only [Bool.and_eq_true] at h
  exact h.2
/-- What a right change names is ahead of it. -/
theorem names_ahead0 (c : Ch) (h : checkCh c = 0) (x : Int × Int) (hx : x ∈ namesL c) : lessS x.1 x.2 c.ac c.ar = true := by
  obtain ⟨_, _, _, _, h5, h6, _, _⟩ := checkCh_ok c h
  simp only [namesL, List.mem_filter, List.mem_cons, List.not_mem_nil, or_false, namB2, Bool.and_eq_true, Bool.not_eq_true', decide_eq_false_iff_not] at hx
  obtain ⟨hx, hr, hne⟩ := hx
  unfold nodeR at h5
  unfold placeR at h6
  rcases hx with rfl | rfl | rfl
  · split at h5
    · simp only [decide_eq_true_eq] at h5; exact absurd h5 hne
    · split at h5
      · exact ahead_less0 h5
      · rcases Bool.or_eq_true _ _ ▸ h5 with h' | h'
        · exact (root_right0 h' hr).elim
        · exact ahead_less0 h'
  · split at h6
    · simp only [Bool.and_eq_true] at h6; exact h6.1.2.1
    · simp only [Bool.and_eq_true] at h6; exact (root_right0 h6.1 hr).elim
  · split at h6
    · simp only [Bool.and_eq_true, Bool.or_eq_true] at h6
      rcases h6.2 with h' | h'
      · exact (root_right0 h' hr).elim
      · exact ahead_less0 h'
    · simp only [Bool.and_eq_true] at h6; exact (root_right0 h6.2 hr).elim

theorem srt_take {L : List Ch} (h : Srt L) (i : Nat) : Srt (L.take i) := List.Pairwise.sublist (List.take_sublist _ _) h
/-- What is ahead of one that stands there stands ahead of it. -/
theorem srt_pre {L : List Ch} (h : Srt L) {i : Nat} {x c : Ch} (hc : c ∈ L.take i) (hx : x ∈ L) (hl : ltB x c = true) : x ∈ L.take i := by
  obtain ⟨k, hk, ek⟩ := List.getElem_of_mem hc
  obtain ⟨j, hj, ej⟩ := List.getElem_of_mem hx
  rw [List.length_take] at hk
  rw [List.getElem_take] at ek
  have hjk : j < k := by
    rcases Nat.lt_trichotomy j k with h' | h' | h'
    · exact h'
    · subst h'
      rw [ej] at ek
      subst ek
      rw [ltB_irr] at hl; cases hl
    · have := srt_get h (by omega : k < L.length) hj h'
      rw [ek, ej] at this
      rw [ltB_no this] at hl; cases hl
  rw [← ej, ← List.getElem_take (h := by rw [List.length_take]; omega) (j := i)]
  exact List.getElem_mem _
theorem srt_pre2 {L : List Ch} (h : Srt L) {i : Nat} (hi : i < L.length) {x : Ch} (hx : x ∈ L) (hl : ltB x L[i] = true) : x ∈ L.take i := by
  obtain ⟨j, hj, ej⟩ := List.getElem_of_mem hx
  have hjk : j < i := by
    rcases Nat.lt_trichotomy j i with h' | h' | h'
    · exact h'
    · subst h'
      rw [← ej, ltB_irr] at hl; cases hl
    · have := srt_get h hi hj h'
      rw [ej] at this
      rw [ltB_no this] at hl; cases hl
  rw [← ej, ← List.getElem_take (h := by rw [List.length_take]; omega) (j := i)]
  exact List.getElem_mem _
theorem ofR_pre (L : List Ch) (i : Nat) (r : Int) : ofR (L.take i) r <+: ofR L r := by
  have := List.IsPrefix.filter (fun c : Ch => decide (c.ar = r)) (List.take_prefix i L)
  exact this
theorem Good.take {L : List Ch} (g : Good L) (i : Nat) : Good (L.take i) := by
  have hm : ∀ x, x ∈ L.take i → x ∈ L := fun x hx => List.mem_of_mem_take hx
  refine ⟨srt_take g.srt i, fun c hc => g.chk c (hm c hc), ?_, ?_, ?_⟩
  · intro r k hk
    have hp := ofR_pre L i r
    have h2 := hp.length_le
    have := hp.getElem hk
    rw [this]
    exact g.seq r k (by omega)
  · intro c hc r hr
    obtain ⟨d, hd, h1, h2, h3⟩ := g.dep c (hm c hc) r hr
    exact ⟨d, srt_pre g.srt hc hd h3, h1, h2, h3⟩
  · intro c hc s hs
    obtain ⟨d, hd, h1, h2, h3⟩ := g.nam c (hm c hc) s hs
    have := names_ahead0 c (g.chk c (hm c hc)) s hs
    rw [← h1, ← h2] at this
    exact ⟨d, srt_pre g.srt hc hd this, h1, h2, h3⟩
theorem Good.under {L : List Ch} (g : Good L) {c : Ch} (h : checkCh c = 0) (hd : ∀ r : Nat, 0 < c.deps.getD r 0 → ∃ d ∈ L, d.ar = (r : Int) ∧ d.seq = c.deps.getD r 0) : underB c.deps (clockL L) = true := by
  rw [underB_iff]
  intro r hr
  have ho := (deps_len h).1
  rw [clockL_getD, if_pos (by omega)]
  by_cases h0 : 0 < c.deps.getD r 0
  · obtain ⟨d, hd, h1, h2⟩ := hd r h0
    have := g.le hd
    rw [h1, h2] at this
    exact this.2
  · omega
theorem Good.closed {L : List Ch} (g : Good L) {i : Nat} (hi : i < L.length) : underB L[i].deps (clockL (L.take i)) = true ∧ atL (clockL (L.take i)) L[i].ar = L[i].seq - 1 ∧ ∀ s ∈ namesL L[i], (getL (L.take i) s.1 s.2).isSome = true := by
  have hm : L[i] ∈ L := List.getElem_mem hi
  have gp := g.take i
  refine ⟨?_, ?_, ?_⟩
  · refine gp.under (g.chk _ hm) fun r hr => ?_
    obtain ⟨d, hd, h1, h2, h3⟩ := g.dep _ hm r hr
    exact ⟨d, srt_pre2 g.srt hi hd h3, h1, h2⟩
  · obtain ⟨_, _, h2, h3, _⟩ := g.right hm
    rw [clockL_at _ h2 h3]
    have e : L.take (i + 1) = L.take i ++ [L[i]] := List.take_succ_eq_append_getElem hi
    have e2 : ofR (L.take (i + 1)) L[i].ar = ofR (L.take i) L[i].ar ++ [L[i]] := by
      rw [e]
      unfold ofR
      rw [List.filter_append]
      simp
    have := (g.take (i + 1)).seq L[i].ar (ofR (L.take i) L[i].ar).length (by rw [e2]; simp)
    simp only [e2] at this
    rw [List.getElem_append_right (Nat.le_refl _)] at this
    simp only [Nat.sub_self, List.getElem_singleton] at this
    unfold cntR
    omega
  · intro s hs
    obtain ⟨d, hd, h1, h2, h3⟩ := g.nam _ hm s hs
    have := names_ahead0 _ (g.chk _ hm) s hs
    rw [← h1, ← h2] at this
    have hp := srt_pre2 g.srt hi hd this
    rw [(getL_some gp.srt).2 ⟨hp, h1, h2⟩]
    rfl

/-- A log whose changes are another one's. -/
theorem part_why {Y Z : List Ch} (gy : Good Y) (gz : Good Z) (hs : ∀ x ∈ Z, x ∈ Y) {c : Ch} (hc : c ∈ Y) (hn : c ∉ Z) {room : Int} (hr : (Z.length : Int) < room) : whyR Z room c = if underB c.deps (clockL Z) = true then 0 else 4 := by
  have h0 := gy.chk c hc
  obtain ⟨_, _, h2, h3, h4, _⟩ := right_of h0
  have e1 : getL Z c.ac c.ar = none := getL_none.2 fun d hd e => hn (by rw [← srt_inj gy.srt (hs d hd) hc e]; exact hd)
  have hcnt : ¬ c.seq ≤ cntR Z c.ar := fun h => by
    obtain ⟨d, hd, e2, e3⟩ := gz.nth h4 h
    exact hn (by rw [← gy.inj (hs d hd) hc e2 e3]; exact hd)
  unfold whyR
  rw [if_neg (Decidable.not_not.2 h0), e1]
  simp only
  have q7 : ¬ (ownC Z c.ar c.seq).isSome = true := by rw [gz.own_is, decide_eq_true_eq]; omega
  rw [if_neg q7]
  cases hu : underB c.deps (clockL Z) with
  | false =>
    have q6 : c.seq ≠ atL (clockL Z) c.ar + 1 ∨ false = false := .inr rfl
    rw [if_pos q6]; rfl
  | true =>
    have hd : hasDepsB Z c = true := by rw [hasDeps_under h0]; exact hu
    have hq := hasDeps_seq h0 hcnt hd
    have q4 : ¬ (c.seq ≠ atL (clockL Z) c.ar + 1 ∨ true = false) := by rw [clockL_at Z h2 h3]; simp only [Bool.true_eq_false, or_false]; omega
    rw [if_neg q4]
    have hall : ∀ d ∈ Y, d.seq ≤ atL c.deps d.ar → d ∈ Z := fun d hd2 hle => by
      obtain ⟨_, _, r1, r2, r3, _⟩ := gy.right hd2
      obtain ⟨k, hk⟩ := Int.eq_ofNat_of_zero_le r1
      rw [hk, atL_nat] at hle
      have hkl : k < c.deps.length := by
        rcases Nat.lt_or_ge k c.deps.length with h' | h'
        · exact h'
        · rw [getD_out h'] at hle; omega
      have := hasDepsB_iff.1 hd k hkl
      obtain ⟨e, he, e2, e3⟩ := gz.nth (r := (k : Int)) (s := d.seq) r3 (by omega)
      rw [← gy.inj (hs e he) hd2 (by omega) e3]
      exact he
    have hb : behindR Z c = true := by
      unfold behindR
      simp only [Bool.and_eq_true, List.all_eq_true, List.mem_range]
      refine ⟨fun r hr => ?_, fun s hs2 => ?_⟩
      · unfold depsR
        by_cases h00 : c.deps.getD r 0 = 0
        · rw [decide_eq_true h00]; rfl
        · have hpos : 0 < c.deps.getD r 0 := by have := ((deps_len h0).getD r).1; omega
          obtain ⟨d, hd2, e2, e3, e4⟩ := gy.dep c hc r hpos
          have hdz : d ∈ Z := hall d hd2 (by rw [e2, atL_nat, e3]; omega)
          rw [gz.own_iff.2 ⟨hdz, e2, e3⟩]
          simp only [e4, Bool.or_true]
      · obtain ⟨d, hd2, e2, e3, e4⟩ := gy.nam c hc s hs2
        have hdz : d ∈ Z := hall d hd2 e4
        unfold namsR
        rw [(getL_some gz.srt).2 ⟨hdz, e2, e3⟩]
        exact decide_eq_true e4
    rw [hb]
    have q8 : ¬ room ≤ (Z.length : Int) := by omega
    rw [if_neg (by decide), if_neg q8]; rfl
theorem part_free {Y Z : List Ch} (gy : Good Y) (gz : Good Z) {c : Ch} (hc : c ∈ Y) (hb : ∀ x ∈ Y, ltB x c = true → x ∈ Z) : underB c.deps (clockL Z) = true :=
  gz.under (gy.chk c hc) fun r hr => by
    obtain ⟨d, hd, h1, h2, h3⟩ := gy.dep c hc r hr
    exact ⟨d, hb d hd h3, h1, h2⟩
theorem part_twice {Z : List Ch} (gz : Good Z) {c : Ch} (h : c ∈ Z) (room : Int) : whyR Z room c = 5 := by
  unfold whyR
  rw [if_neg (Decidable.not_not.2 (gz.chk c h)), (getL_some gz.srt).2 ⟨h, rfl, rfl⟩]
  simp only
  rw [sameB_self, if_pos rfl]

/-- What is added where nothing speaks against it. -/
def addL (Z : List Ch) (room : Int) (c : Ch) : List Ch := if whyR Z room c = 0 then putC Z c else Z
theorem addL_good {Z : List Ch} (g : Good Z) (room : Int) (c : Ch) : Good (addL Z room c) := by
  unfold addL
  split
  · rename_i h; exact good_put g h
  · exact g
theorem addL_length (Z : List Ch) (room : Int) (c : Ch) : (addL Z room c).length ≤ Z.length + 1 := by
  unfold addL
  split
  · rw [putC_length]; exact Nat.le_refl _
  · exact Nat.le_succ _
theorem addL_room {Z : List Ch} {room : Int} {c : Ch} (h : (Z.length : Int) ≤ room) : ((addL Z room c).length : Int) ≤ room := by
  unfold addL
  split
  · rename_i h2
    have := (why_ok h2).2.2.2.2.2
    rw [putC_length]; omega
  · exact h
theorem addL_mem {Z : List Ch} {room : Int} {c x : Ch} (h : x ∈ addL Z room c) : x ∈ Z ∨ x = c := by
  unfold addL at h
  split at h
  · exact ((putC_mem _ _ _).1 h).symm
  · exact .inl h
/-- A log of changes, as far as they can be added. -/
def fillL (room : Int) (l : List Ch) : List Ch := l.foldl (fun Z c => addL Z room c) []
theorem fillL_snoc (room : Int) (l : List Ch) (c : Ch) : fillL room (l ++ [c]) = addL (fillL room l) room c := by simp [fillL]
theorem foldl_good (room : Int) (l : List Ch) : ∀ Z, Good Z → Good (l.foldl (fun Z c => addL Z room c) Z) := by
  induction l with
  | nil => intro Z h; exact h
  | cons c t ih => intro Z h; exact ih _ (addL_good h room c)
theorem fillL_good (room : Int) (l : List Ch) : Good (fillL room l) := foldl_good room l [] Good.none
theorem foldl_room (room : Int) (l : List Ch) : ∀ Z : List Ch, (Z.length : Int) ≤ room → ((l.foldl (fun Z c => addL Z room c) Z).length : Int) ≤ room := by
  induction l with
  | nil => intro Z h; exact h
  | cons c t ih => intro Z h; exact ih _ (addL_room h)
theorem fillL_room {room : Int} (h : 0 ≤ room) (l : List Ch) : ((fillL room l).length : Int) ≤ room := foldl_room room l [] (by simpa using h)

/-- Less changes are in a shorter list. -/
theorem srt_sub {Z W : List Ch} (hz : Srt Z) (hw : Srt W) (hs : ∀ x ∈ Z, x ∈ W) : Z.length ≤ W.length := by
  classical
  have : Z = W.filter (fun x => decide (x ∈ Z)) := srt_ext hz (List.Pairwise.filter _ hw) fun x => by
    simp only [List.mem_filter, decide_eq_true_eq]
    exact ⟨fun h => ⟨hs x h, h⟩, fun h => h.2⟩
  rw [this]
  exact List.length_filter_le _ _
theorem srt_sub_lt {Z W : List Ch} (hz : Srt Z) (hw : Srt W) (hs : ∀ x ∈ Z, x ∈ W) {c : Ch} (hc : c ∈ W) (hn : c ∉ Z) : Z.length < W.length := by
  classical
  have : Z = W.filter (fun x => decide (x ∈ Z)) := srt_ext hz (List.Pairwise.filter _ hw) fun x => by
    simp only [List.mem_filter, decide_eq_true_eq]
    exact ⟨fun h => ⟨hs x h, h⟩, fun h => h.2⟩
  rw [this]
  exact List.length_filter_lt_length_iff_exists.2 ⟨c, hc, by simpa using hn⟩

/-- One history: of two logs of it one adds what the other one has, in its order. -/
theorem union_step {W a Z : List Ch} (gw : Good W) (ga : Good a) (gz : Good Z) (ha : ∀ x ∈ a, x ∈ W) (hz : ∀ x ∈ Z, x ∈ W) {c : Ch} (hc : c ∈ a) (hp : ∀ x ∈ a, ltB x c = true → x ∈ Z) (hn : c ∉ Z) {room : Int} (hr : (W.length : Int) ≤ room) : whyR Z room c = 0 := by
  have hlt := srt_sub_lt gz.srt gw.srt hz (ha c hc) hn
  rw [part_why gw gz hz (ha c hc) hn (by omega), part_free ga gz hc hp]
  rfl
theorem within_iff {W a b : List Ch} (gw : Good W) (ga : Good a) (gb : Good b) (ha : ∀ x ∈ a, x ∈ W) (hb : ∀ x ∈ b, x ∈ W) {c : Ch} (hc : c ∈ a) : withinB c (clockL b) = true ↔ c ∈ b := by
  obtain ⟨_, _, h2, h3, h4, _⟩ := ga.right hc
  unfold withinB
  rw [clockL_at _ h2 h3, decide_eq_true_eq]
  constructor
  · intro h
    obtain ⟨d, hd, e1, e2⟩ := gb.nth h4 h
    rw [← gw.inj (hb d hd) (ha c hc) e1 e2]
    exact hd
  · intro h; exact (gb.le h).2
theorem union_clock {W a b U : List Ch} (gw : Good W) (ga : Good a) (gb : Good b) (gu : Good U) (hu : ∀ x, x ∈ U ↔ x ∈ b ∨ x ∈ a) : clockL U = mergeL (clockL a) (clockL b) := by
  have e : ∀ k, (clockL U).getD k 0 = (mergeL (clockL a) (clockL b)).getD k 0 := fun k => by
    rw [mergeL_getD, clockL_getD, clockL_getD, clockL_getD]
    by_cases hk : k < 64
    · rw [if_pos hk, if_pos hk, if_pos hk]
      have h1 : (cntR a k : Int) ≤ cntR U k := by
        by_cases h0 : cntR a (k : Int) = 0
        · omega
        · obtain ⟨d, hd, e1, e2⟩ := ga.nth (r := (k : Int)) (s := cntR a (k : Int)) (by omega) (Int.le_refl _)
          have := gu.le ((hu d).2 (.inr hd))
          rw [e1, e2] at this
          exact this.2
      have h2 : (cntR b k : Int) ≤ cntR U k := by
        by_cases h0 : cntR b (k : Int) = 0
        · omega
        · obtain ⟨d, hd, e1, e2⟩ := gb.nth (r := (k : Int)) (s := cntR b (k : Int)) (by omega) (Int.le_refl _)
          have := gu.le ((hu d).2 (.inl hd))
          rw [e1, e2] at this
          exact this.2
      have h3 : (cntR U k : Int) ≤ max (cntR a k : Int) (cntR b k : Int) := by
        by_cases h0 : cntR U (k : Int) = 0
        · omega
        · obtain ⟨d, hd, e1, e2⟩ := gu.nth (r := (k : Int)) (s := cntR U (k : Int)) (by omega) (Int.le_refl _)
          rcases (hu d).1 hd with h | h
          · have := gb.le h
            rw [e1, e2] at this
            omega
          · have := ga.le h
            rw [e1, e2] at this
            omega
      omega
    · rw [if_neg hk, if_neg hk, if_neg hk]; rfl
  have t1 : trimL (clockL U) = clockL U := trim_idem _
  have t2 : trimL (mergeL (clockL a) (clockL b)) = mergeL (clockL a) (clockL b) := mergeL_trim _ _
  rw [← t1, ← t2]
  exact trim_ext _ _ e

/-- What somebody lacks. -/
def lackL (L : List Ch) (known : List Int) : List Ch := L.filter fun c => !withinB c known
theorem lackL_srt {L : List Ch} (h : Srt L) (known : List Int) : Srt (lackL L known) := List.Pairwise.filter _ h
theorem lackL_all {L : List Ch} (g : Good L) : lackL L [] = L := by
  unfold lackL
  rw [List.filter_eq_self]
  intro c hc
  have := g.right hc
  have e : withinB c [] = false := by unfold withinB; rw [decide_eq_false_iff_not]; unfold atL; split <;> simp <;> omega
  rw [e]; rfl
theorem lack_ahead {W a b : List Ch} (gw : Good W) (ga : Good a) (gb : Good b) (ha : ∀ x ∈ a, x ∈ W) (hb : ∀ x ∈ b, x ∈ W) {j : Nat} (hj : j < (lackL a (clockL b)).length) : ∀ x ∈ a, ltB x (lackL a (clockL b))[j] = true → x ∈ b ∨ x ∈ (lackL a (clockL b)).take j := fun x hx hl => by
  cases h : withinB x (clockL b) with
  | true => exact .inl ((within_iff gw ga gb ha hb hx).1 h)
  | false => exact .inr (srt_pre2 (lackL_srt ga.srt _) hj (by unfold lackL; rw [List.mem_filter]; exact ⟨hx, by rw [h]; rfl⟩) hl)
theorem lack_not {W a b : List Ch} (gw : Good W) (ga : Good a) (gb : Good b) (ha : ∀ x ∈ a, x ∈ W) (hb : ∀ x ∈ b, x ∈ W) {x : Ch} (hx : x ∈ lackL a (clockL b)) : x ∈ a ∧ x ∉ b := by
  unfold lackL at hx
  rw [List.mem_filter] at hx
  refine ⟨hx.1, fun h => ?_⟩
  rw [(within_iff gw ga gb ha hb hx.1).2 h] at hx
  exact absurd hx.2 (by decide)

/-- The greatest count. -/
def lastL (L : List Ch) : Int := match L.getLast? with | some c => c.ac | none => 0
theorem foldl_max {L : List Ch} (h : Srt L) : ∀ n : Int, (∀ c ∈ L, n ≤ c.ac) → L.foldl (fun m c => max m c.ac) n = match L.getLast? with | some c => c.ac | none => n := by
  induction L with
  | nil => intro n _; rfl
  | cons x t ih =>
    intro n hn
    have h1 := List.pairwise_cons.1 h
    rw [List.foldl_cons, show max n x.ac = x.ac by have := hn x (by simp); omega, ih h1.2 x.ac (fun c hc => by have := (ltB_iff _ _).1 (h1.1 c hc); omega)]
    cases t with
    | nil => rfl
    | cons y u =>
      rw [List.getLast?_cons_cons]
      cases e : (y :: u).getLast? with
      | none => simp at e
      | some z => rfl
theorem lastL_max {L : List Ch} (g : Good L) : L.foldl (fun m c => max m c.ac) 0 = lastL L := foldl_max g.srt 0 fun c hc => by have := g.right hc; omega

end Go.Proofs.Ytcnolipgmpjcbab
