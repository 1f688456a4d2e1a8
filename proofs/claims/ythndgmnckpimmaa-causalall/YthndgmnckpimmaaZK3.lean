/- CausalAll of package topiarylaw09 is proved at this commit: for every input (a list of changes, a list of numbers, any) the call returns true and the arguments read as they did. No condition. -/
import Derived.Test.YthndgmnckpimmaaPlainN
import Derived.Test.YthndgmnckpimmaaCaG
import Derived.Test.YthndgmnckpimmaaZK1
import Derived.Test.YthndgmnckpimmaaZK2
import Derived.Test.YthndgmnckpimmaaZK0
import Derived.Test.YthndgmnckpimmaaTk
import Derived.Test.YthndgmnckpimmaaCaZ
import Derived.Deep.CutRange
import Derived.Test.YthndgmnckpimmaaBaseO
namespace Go.Proofs.Ythndgmnckpimmaa
set_option linter.unusedVariables false

theorem root_right0 {c r : Int} (h : rootB c r = true) (h2 : rightB c r = true) : False := by
  simp only [rootB, rightB, decide_eq_true_eq] at h h2; omega
theorem ahead_less0 {c r c2 r2 : Int} (h : aheadB c r c2 r2 = true) : lessS c r c2 r2 = true := by
  unfold aheadB at h
  simp only [Bool.and_eq_true] at h
  exact h.2
/-- What a right change names is ahead of it. -/
theorem names_ahead0 (c : Ch) (h : checkCh c = 0) (x : Int × Int) (hx : x ∈ namesL c) : lessS x.1 x.2 c.ac c.ar = true := by
  obtain ⟨_, _, _, _, h5, h6, _, _⟩ := checkCh_ok c h
  simp only [namesL, List.mem_filter, List.mem_cons, List.not_mem_nil, or_false, namB2, Bool.and_eq_true, Bool.not_eq_true', decide_eq_false_iff_not] at hx
  obtain ⟨hx, hr, hne⟩ := hx
  unfold nodeR at h5
  unfold placeR at h6
  rcases hx with rfl | rfl | rfl
  · split at h5
    · simp only [decide_eq_true_eq] at h5; exact absurd h5 hne
    · split at h5
      · exact ahead_less0 h5
      · rcases Bool.or_eq_true _ _ ▸ h5 with h' | h'
        · exact (root_right0 h' hr).elim
        · exact ahead_less0 h'
  · split at h6
    · simp only [Bool.and_eq_true] at h6; exact h6.1.2.1
    · simp only [Bool.and_eq_true] at h6; exact (root_right0 h6.1 hr).elim
  · split at h6
    · simp only [Bool.and_eq_true, Bool.or_eq_true] at h6
      rcases h6.2 with h' | h'
      · exact (root_right0 h' hr).elim
      · exact ahead_less0 h'
    · simp only [Bool.and_eq_true] at h6; exact (root_right0 h6.2 hr).elim

theorem srt_take {L : List Ch} (h : Srt L) (i : Nat) : Srt (L.take i) := List.Pairwise.sublist (List.take_sublist _ _) h
/-- What is ahead of one that stands there stands ahead of it. -/
theorem srt_pre {L : List Ch} (h : Srt L) {i : Nat} {x c : Ch} (hc : c ∈ L.take i) (hx : x ∈ L) (hl : ltB x c = true) : x ∈ L.take i := by
  obtain ⟨k, hk, ek⟩ := List.getElem_of_mem hc
  obtain ⟨j, hj, ej⟩ := List.getElem_of_mem hx
  rw [List.length_take] at hk
  rw [List.getElem_take] at ek
  have hjk : j < k := by
    rcases Nat.lt_trichotomy j k with h' | h' | h'
    · exact h'
    · subst h'
      rw [ej] at ek
      subst ek
      rw [ltB_irr] at hl; cases hl
    · have := srt_get h (by omega : k < L.length) hj h'
      rw [ek, ej] at this
      rw [ltB_no this] at hl; cases hl
  rw [← ej, ← List.getElem_take (h := by rw [List.length_take]; omega) (j := i)]
  exact List.getElem_mem _
theorem srt_pre2 {L : List Ch} (h : Srt L) {i : Nat} (hi : i < L.length) {x : Ch} (hx : x ∈ L) (hl : ltB x L[i] = true) : x ∈ L.take i := by
  obtain ⟨j, hj, ej⟩ := List.getElem_of_mem hx
  have hjk : j < i := by
    rcases Nat.lt_trichotomy j i with h' | h' | h'
    · exact h'
    · subst h'
      rw [← ej, ltB_irr] at hl; cases hl
    · have := srt_get h hi hj h'
      rw [ej] at this
      rw [ltB_no this] at hl; cases hl
  rw [← ej, ← List.getElem_take (h := by rw [List.length_take]; omega) (j := i)]
  exact List.getElem_mem _
theorem ofR_pre (L : List Ch) (i : Nat) (r : Int) : ofR (L.take i) r <+: ofR L r := by
  have := List.IsPrefix.filter (fun c : Ch => decide (c.ar = r)) (List.take_prefix i L)
  exact this
theorem Good.take {L : List Ch} (g : Good L) (i : Nat) : Good (L.take i) := by
  have hm : ∀ x, x ∈ L.take i → x ∈ L := fun x hx => List.mem_of_mem_take hx
  refine ⟨srt_take g.srt i, fun c hc => g.chk c (hm c hc), ?_, ?_, ?_⟩
  · intro r k hk
    have hp := ofR_pre L i r
    have h2 := hp.length_le
    have := hp.getElem hk
    rw [this]
    exact g.seq r k (by omega)
  · intro c hc r hr
    obtain ⟨d, hd, h1, h2, h3⟩ := g.dep c (hm c hc) r hr
    exact ⟨d, srt_pre g.srt hc hd h3, h1, h2, h3⟩
  · intro c hc s hs
    obtain ⟨d, hd, h1, h2, h3⟩ := g.nam c (hm c hc) s hs
    have := names_ahead0 c (g.chk c (hm c hc)) s hs
    rw [← h1, ← h2] at this
    exact ⟨d, srt_pre g.srt hc hd this, h1, h2, h3⟩
theorem Good.under {L : List Ch} (g : Good L) {c : Ch} (h : checkCh c = 0) (hd : ∀ r : Nat, 0 < c.deps.getD r 0 → ∃ d ∈ L, d.ar = (r : Int) ∧ d.seq = c.deps.getD r 0) : underB c.deps (clockL L) = true := by
  rw [underB_iff]
  intro r hr
  have ho := (deps_len h).1
  rw [clockL_getD, if_pos (by omega)]
  by_cases h0 : 0 < c.deps.getD r 0
  · obtain ⟨d, hd, h1, h2⟩ := hd r h0
    have := g.le hd
    rw [h1, h2] at this
    exact this.2
  · omega
theorem Good.closed {L : List Ch} (g : Good L) {i : Nat} (hi : i < L.length) : underB L[i].deps (clockL (L.take i)) = true ∧ atL (clockL (L.take i)) L[i].ar = L[i].seq - 1 ∧ ∀ s ∈ namesL L[i], (getL (L.take i) s.1 s.2).isSome = true := by
  have hm : L[i] ∈ L := List.getElem_mem hi
  have gp := g.take i
  refine ⟨?_, ?_, ?_⟩
  · refine gp.under (g.chk _ hm) fun r hr => ?_
    obtain ⟨d, hd, h1, h2, h3⟩ := g.dep _ hm r hr
    exact ⟨d, srt_pre2 g.srt hi hd h3, h1, h2⟩
  · obtain ⟨_, _, h2, h3, _⟩ := g.right hm
    rw [clockL_at _ h2 h3]
    have e : L.take (i + 1) = L.take i ++ [L[i]] := List.take_succ_eq_append_getElem hi
    have e2 : ofR (L.take (i + 1)) L[i].ar = ofR (L.take i) L[i].ar ++ [L[i]] := by
      rw [e]
      unfold ofR
      rw [List.filter_append]
      simp
    have := (g.take (i + 1)).seq L[i].ar (ofR (L.take i) L[i].ar).length (by rw [e2]; simp)
    simp only [e2] at this
    rw [List.getElem_append_right (Nat.le_refl _)] at this
    simp only [Nat.sub_self, List.getElem_singleton] at this
    unfold cntR
    omega
  · intro s hs
    obtain ⟨d, hd, h1, h2, h3⟩ := g.nam _ hm s hs
    have := names_ahead0 _ (g.chk _ hm) s hs
    rw [← h1, ← h2] at this
    have hp := srt_pre2 g.srt hi hd this
    rw [(getL_some gp.srt).2 ⟨hp, h1, h2⟩]
    rfl

/-- A log whose changes are another one's. -/
theorem part_why {Y Z : List Ch} (gy : Good Y) (gz : Good Z) (hs : ∀ x ∈ Z, x ∈ Y) {c : Ch} (hc : c ∈ Y) (hn : c ∉ Z) {room : Int} (hr : (Z.length : Int) < room) : whyR Z room c = if underB c.deps (clockL Z) = true then 0 else 4 := by
  have h0 := gy.chk c hc
  obtain ⟨_, _, h2, h3, h4, _⟩ := right_of h0
  have e1 : getL Z c.ac c.ar = none := getL_none.2 fun d hd e => hn (by rw [← srt_inj gy.srt (hs d hd) hc e]; exact hd)
  have hcnt : ¬ c.seq ≤ cntR Z c.ar := fun h => by
    obtain ⟨d, hd, e2, e3⟩ := gz.nth h4 h
    exact hn (by rw [← gy.inj (hs d hd) hc e2 e3]; exact hd)
  unfold whyR
  rw [if_neg (Decidable.not_not.2 h0), e1]
  simp only
  have q7 : ¬ (ownC Z c.ar c.seq).isSome = true := by rw [gz.own_is, decide_eq_true_eq]; omega
  rw [if_neg q7]
  cases hu : underB c.deps (clockL Z) with
  | false =>
    have q6 : c.seq ≠ atL (clockL Z) c.ar + 1 ∨ false = false := .inr rfl
    rw [if_pos q6]; rfl
  | true =>
    have hd : hasDepsB Z c = true := by rw [hasDeps_under h0]; exact hu
    have hq := hasDeps_seq h0 hcnt hd
    have q4 : ¬ (c.seq ≠ atL (clockL Z) c.ar + 1 ∨ true = false) := by rw [clockL_at Z h2 h3]; simp only [Bool.true_eq_false, or_false]; omega
    rw [if_neg q4]
    have hall : ∀ d ∈ Y, d.seq ≤ atL c.deps d.ar → d ∈ Z := fun d hd2 hle => by
      obtain ⟨_, _, r1, r2, r3, _⟩ := gy.right hd2
      obtain ⟨k, hk⟩ := Int.eq_ofNat_of_zero_le r1
      rw [hk, atL_nat] at hle
      have hkl : k < c.deps.length := by
        rcases Nat.lt_or_ge k c.deps.length with h' | h'
        · exact h'
        · rw [getD_out h'] at hle; omega
      have := hasDepsB_iff.1 hd k hkl
      obtain ⟨e, he, e2, e3⟩ := gz.nth (r := (k : Int)) (s := d.seq) r3 (by omega)
      rw [← gy.inj (hs e he) hd2 (by omega) e3]
      exact he
    have hb : behindR Z c = true := by
      unfold behindR
      simp only [Bool.and_eq_true, List.all_eq_true, List.mem_range]
      refine ⟨fun r hr => ?_, fun s hs2 => ?_⟩
      · unfold depsR
        by_cases h00 : c.deps.getD r 0 = 0
        · rw [decide_eq_true h00]; rfl
        · have hpos : 0 < c.deps.getD r 0 := by have := ((deps_len h0).getD r).1; omega
          obtain ⟨d, hd2, e2, e3, e4⟩ := gy.dep c hc r hpos
          have hdz : d ∈ Z := hall d hd2 (by rw [e2, atL_nat, e3]; omega)
          rw [gz.own_iff.2 ⟨hdz, e2, e3⟩]
          simp only [e4, Bool.or_true]
      · obtain ⟨d, hd2, e2, e3, e4⟩ := gy.nam c hc s hs2
        have hdz : d ∈ Z := hall d hd2 e4
        unfold namsR
        rw [(getL_some gz.srt).2 ⟨hdz, e2, e3⟩]
        exact decide_eq_true e4
    rw [hb]
    have q8 : ¬ room ≤ (Z.length : Int) := by omega
    rw [if_neg (by decide), if_neg q8]; rfl
theorem part_free {Y Z : List Ch} (gy : Good Y) (gz : Good Z) {c : Ch} (hc : c ∈ Y) (hb : ∀ x ∈ Y, ltB x c = true → x ∈ Z) : underB c.deps (clockL Z) = true :=
  gz.under (gy.chk c hc) fun r hr => by
    obtain ⟨d, hd, h1, h2, h3⟩ := gy.dep c hc r hr
    exact ⟨d, hb d hd h3, h1, h2⟩
theorem part_twice {Z : List Ch} (gz : Good Z) {c : Ch} (h : c ∈ Z) (room : Int) : whyR Z room c = 5 := by
  unfold whyR
  rw [if_neg (Decidable.not_not.2 (gz.chk c h)), (getL_some gz.srt).2 ⟨h, rfl, rfl⟩]
  simp only
  rw [sameB_self, if_pos rfl]

/-- Less changes are in a shorter list. -/
theorem srt_sub {Z W : List Ch} (hz : Srt Z) (hw : Srt W) (hs : ∀ x ∈ Z, x ∈ W) : Z.length ≤ W.length := by
  classical
  have : Z = W.filter (fun x => decide (x ∈ Z)) := srt_ext hz (List.Pairwise.filter _ hw) fun x => by
    simp only [List.mem_filter, decide_eq_true_eq]
    exact ⟨fun h => ⟨hs x h, h⟩, fun h => h.2⟩
  rw [this]
  exact List.length_filter_le _ _
theorem srt_sub_lt {Z W : List Ch} (hz : Srt Z) (hw : Srt W) (hs : ∀ x ∈ Z, x ∈ W) {c : Ch} (hc : c ∈ W) (hn : c ∉ Z) : Z.length < W.length := by
  classical
  have : Z = W.filter (fun x => decide (x ∈ Z)) := srt_ext hz (List.Pairwise.filter _ hw) fun x => by
    simp only [List.mem_filter, decide_eq_true_eq]
    exact ⟨fun h => ⟨hs x h, h⟩, fun h => h.2⟩
  rw [this]
  exact List.length_filter_lt_length_iff_exists.2 ⟨c, hc, by simpa using hn⟩

/-- One history: of two logs of it one adds what the other one has, in its order. -/
theorem union_step {W a Z : List Ch} (gw : Good W) (ga : Good a) (gz : Good Z) (ha : ∀ x ∈ a, x ∈ W) (hz : ∀ x ∈ Z, x ∈ W) {c : Ch} (hc : c ∈ a) (hp : ∀ x ∈ a, ltB x c = true → x ∈ Z) (hn : c ∉ Z) {room : Int} (hr : (W.length : Int) ≤ room) : whyR Z room c = 0 := by
  have hlt := srt_sub_lt gz.srt gw.srt hz (ha c hc) hn
  rw [part_why gw gz hz (ha c hc) hn (by omega), part_free ga gz hc hp]
  rfl
theorem within_iff {W a b : List Ch} (gw : Good W) (ga : Good a) (gb : Good b) (ha : ∀ x ∈ a, x ∈ W) (hb : ∀ x ∈ b, x ∈ W) {c : Ch} (hc : c ∈ a) : withinB c (clockL b) = true ↔ c ∈ b := by
  obtain ⟨_, _, h2, h3, h4, _⟩ := ga.right hc
  unfold withinB
  rw [clockL_at _ h2 h3, decide_eq_true_eq]
  constructor
  · intro h
    obtain ⟨d, hd, e1, e2⟩ := gb.nth h4 h
    rw [← gw.inj (hb d hd) (ha c hc) e1 e2]
    exact hd
  · intro h; exact (gb.le h).2
theorem union_clock {W a b U : List Ch} (gw : Good W) (ga : Good a) (gb : Good b) (gu : Good U) (hu : ∀ x, x ∈ U ↔ x ∈ b ∨ x ∈ a) : clockL U = mergeL (clockL a) (clockL b) := by
  have e : ∀ k, (clockL U).getD k 0 = (mergeL (clockL a) (clockL b)).getD k 0 := fun k => by
    rw [mergeL_getD, clockL_getD, clockL_getD, clockL_getD]
    by_cases hk : k < 64
    · rw [if_pos hk, if_pos hk, if_pos hk]
      have h1 : (cntR a k : Int) ≤ cntR U k := by
        by_cases h0 : cntR a (k : Int) = 0
        · omega
        · obtain ⟨d, hd, e1, e2⟩ := ga.nth (r := (k : Int)) (s := cntR a (k : Int)) (by omega) (Int.le_refl _)
          have := gu.le ((hu d).2 (.inr hd))
          rw [e1, e2] at this
          exact this.2
      have h2 : (cntR b k : Int) ≤ cntR U k := by
        by_cases h0 : cntR b (k : Int) = 0
        · omega
        · obtain ⟨d, hd, e1, e2⟩ := gb.nth (r := (k : Int)) (s := cntR b (k : Int)) (by omega) (Int.le_refl _)
          have := gu.le ((hu d).2 (.inl hd))
          rw [e1, e2] at this
          exact this.2
      have h3 : (cntR U k : Int) ≤ max (cntR a k : Int) (cntR b k : Int) := by
        by_cases h0 : cntR U (k : Int) = 0
        · omega
        · obtain ⟨d, hd, e1, e2⟩ := gu.nth (r := (k : Int)) (s := cntR U (k : Int)) (by omega) (Int.le_refl _)
          rcases (hu d).1 hd with h | h
          · have := gb.le h
            rw [e1, e2] at this
            omega
          · have := ga.le h
            rw [e1, e2] at this
            omega
      omega
    · rw [if_neg hk, if_neg hk, if_neg hk]; rfl
  have t1 : trimL (clockL U) = clockL U := trim_idem _
  have t2 : trimL (mergeL (clockL a) (clockL b)) = mergeL (clockL a) (clockL b) := mergeL_trim _ _
  rw [← t1, ← t2]
  exact trim_ext _ _ e

theorem lack_ahead {W a b : List Ch} (gw : Good W) (ga : Good a) (gb : Good b) (ha : ∀ x ∈ a, x ∈ W) (hb : ∀ x ∈ b, x ∈ W) {j : Nat} (hj : j < (lackL a (clockL b)).length) : ∀ x ∈ a, ltB x (lackL a (clockL b))[j] = true → x ∈ b ∨ x ∈ (lackL a (clockL b)).take j := fun x hx hl => by
  cases h : withinB x (clockL b) with
  | true => exact .inl ((within_iff gw ga gb ha hb hx).1 h)
  | false => exact .inr (srt_pre2 (lackL_srt ga.srt _) hj (by unfold lackL; rw [List.mem_filter]; exact ⟨hx, by rw [h]; rfl⟩) hl)
theorem lack_not {W a b : List Ch} (gw : Good W) (ga : Good a) (gb : Good b) (ha : ∀ x ∈ a, x ∈ W) (hb : ∀ x ∈ b, x ∈ W) {x : Ch} (hx : x ∈ lackL a (clockL b)) : x ∈ a ∧ x ∉ b := by
  unfold lackL at hx
  rw [List.mem_filter] at hx
  refine ⟨hx.1, fun h => ?_⟩
  rw [(within_iff gw ga gb ha hb hx.1).2 h] at hx
  exact absurd hx.2 (by decide)


end Go.Proofs.Ythndgmnckpimmaa

namespace Go.Proofs.Ythndgmnckpimmaa
set_option linter.unusedVariables false
set_option linter.unusedSimpArgs false

theorem clockL_okC {L : List Ch} (h : L.length ≤ 4096) : OkC (clockL L) := by
  refine ⟨clockL_length L, fun x hx => ?_⟩
  obtain ⟨k, hk, rfl⟩ := List.getElem_of_mem hx
  have e : (clockL L)[k] = (clockL L).getD k 0 := by rw [List.getD_eq_getElem?_getD, List.getElem?_eq_getElem hk]; rfl
  rw [e, clockL_getD]
  have := cntR_le L (k : Int)
  split <;> omega
/-- One that is lacking is ready just if it may be added. -/
theorem ready_why {Y Z : List Ch} (gy : Good Y) (gz : Good Z) (hs : ∀ x ∈ Z, x ∈ Y) {c : Ch} (hc : c ∈ Y) (hn : c ∉ Z) {room : Int} (hr : (Z.length : Int) < room) : readyB (clockL Z) c = true ↔ whyR Z room c = 0 := by
  constructor
  · intro h
    rw [part_why gy gz hs hc hn hr, if_pos (ready_seq h).2]
  · intro h
    have := why_ok h
    unfold readyB
    rw [this.2.2.2.1, Bool.and_true, decide_eq_true_eq]
    exact this.2.2.1
/-- The clock of a log with one more. -/
theorem clock_put {Z : List Ch} (gz : Good Z) (hl : Z.length ≤ 4096) {room : Int} {c : Ch} (hw : whyR Z room c = 0) : clockL (putC Z c) = tickR (clockL Z) c.ar := by
  have ho := why_ok hw
  have hrd : readyB (clockL Z) c = true := by
    unfold readyB
    rw [ho.2.2.2.1, Bool.and_true, decide_eq_true_eq]
    exact ho.2.2.1
  have hr := right_of ho.1
  obtain ⟨t1, t2, t3⟩ := tick_ready (clockL_okC hl) ho.1 hrd
  have e1 : trimL (clockL (putC Z c)) = clockL (putC Z c) := trim_idem _
  have e2 : trimL (tickR (clockL Z) c.ar) = tickR (clockL Z) c.ar := by unfold tickR; rw [if_pos t1]; exact trim_idem _
  rw [← e1, ← e2]
  refine trim_ext _ _ fun k => ?_
  have h1 := t3 (k : Int)
  have h2 : ∀ d : List Int, atL d (k : Int) = d.getD k 0 := fun d => by unfold atL; simp
  rw [h2, h2] at h1
  rw [h1, clockL_getD, clockL_getD]
  by_cases hk : k < 64
  · rw [if_pos hk, if_pos hk]
    have h3 : cntR (putC Z c) (k : Int) = if c.ar = (k : Int) then cntR Z (k : Int) + 1 else cntR Z (k : Int) := by
      unfold cntR
      rw [ofR_put_own gz hw]
      split <;> simp
    rw [h3]
    by_cases e : c.ar = (k : Int)
    · rw [if_pos e, if_pos e.symm]; omega
    · rw [if_neg e, if_neg (fun q => e q.symm)]
  · rw [if_neg hk, if_neg hk, if_neg (by omega)]
/-- Each of these may be added, one behind another. -/
def AddOk : List Ch → List Ch → Prop
  | _, [] => True
  | Z, x :: t => whyR Z 256 x = 0 ∧ AddOk (addL Z 256 x) t
def addsL (Z O : List Ch) : List Ch := O.foldl (fun Z c => addL Z 256 c) Z
theorem addL_put {Z : List Ch} {room : Int} {c : Ch} (h : whyR Z room c = 0) : addL Z room c = putC Z c := by unfold addL; rw [if_pos h]
structure RunP (Y Z L O L' : List Ch) : Prop where
  ok : AddOk Z O
  good : Good (addsL Z O)
  mem : ∀ x, x ∈ addsL Z O ↔ x ∈ Z ∨ x ∈ O
  nr : ∀ y ∈ L', readyB (clockL (addsL Z O)) y = false
  all : ∀ x, x ∈ L ↔ x ∈ O ∨ x ∈ L'
  dis : ∀ x ∈ L', x ∉ O
theorem run_all {Y : List Ch} (gy : Good Y) (hy : Y.length ≤ 256) : ∀ (n : Nat) (Z L : List Ch), Good Z → (∀ x ∈ Z, x ∈ Y) → (∀ x ∈ L, x ∈ Y ∧ x ∉ Z) → Plc L → L.length ≤ n → RunP Y Z L (runL n (clockL Z) L).1 (runL n (clockL Z) L).2
  | 0, Z, L, gz, hz, hL, hp, hn => by
    have e : L = [] := List.eq_nil_of_length_eq_zero (by omega)
    subst e
    exact ⟨trivial, gz, fun x => by simp [addsL, runL], fun y h => by simp [runL] at h, fun x => by simp [runL], fun x h => by simp [runL] at h⟩
  | n + 1, Z, L, gz, hz, hL, hp, hn => by
    cases h : L.find? (readyB (clockL Z)) with
    | none =>
      rw [runL_none h]
      refine ⟨trivial, gz, fun x => by simp [addsL], fun y hm => ?_, fun x => by simp, fun x _ h => by simp at h⟩
      have := List.find?_eq_none.1 h y hm
      show readyB (clockL Z) y = false
      simpa using this
    | some x =>
      have hx : x ∈ L := List.mem_of_find?_eq_some h
      have hr : readyB (clockL Z) x = true := by have := List.find?_some h; simpa using this
      have hzl : Z.length < Y.length := srt_sub_lt gz.srt gy.srt hz (hL x hx).1 (hL x hx).2
      have hw : whyR Z 256 x = 0 := (ready_why gy gz hz (hL x hx).1 (hL x hx).2 (by omega)).1 hr
      have hpe := hp.take hx
      have hlen := hpe.length_eq
      simp only [List.length_cons] at hlen
      rw [runL_some h, ← clock_put gz (by omega) hw]
      have hmem : ∀ y, y ∈ putC Z x ↔ y = x ∨ y ∈ Z := putC_mem Z x
      have hf : ∀ y ∈ L.filter (notAt x), y ∈ Y ∧ y ∉ putC Z x := fun y q => by
        have q1 := List.mem_filter.1 q
        refine ⟨(hL y q1.1).1, fun q2 => ?_⟩
        rcases (hmem y).1 q2 with rfl | q2
        · exact absurd (notAt_iff y y |>.1 q1.2) (by simp)
        · exact (hL y q1.1).2 q2
      have ih := run_all gy hy n (putC Z x) (L.filter (notAt x)) (good_put gz hw) (fun y q => ((hmem y).1 q).elim (fun e => e ▸ (hL x hx).1) (hz y)) hf (hp.sub List.filter_sublist) (by omega)
      have ea : addsL Z (x :: (runL n (clockL (putC Z x)) (L.filter (notAt x))).1) = addsL (putC Z x) (runL n (clockL (putC Z x)) (L.filter (notAt x))).1 := by
        unfold addsL
        rw [List.foldl_cons, addL_put hw]
      refine ⟨⟨hw, by rw [addL_put hw]; exact ih.ok⟩, by rw [ea]; exact ih.good, fun y => ?_, by rw [ea]; exact ih.nr, fun y => ?_, fun y q q2 => ?_⟩
      · rw [ea, ih.mem, hmem, List.mem_cons]
        constructor
        · rintro ((q | q) | q)
          · exact .inr (.inl q)
          · exact .inl q
          · exact .inr (.inr q)
        · rintro (q | q | q)
          · exact .inl (.inr q)
          · exact .inl (.inl q)
          · exact .inr q
      · have := hpe.mem_iff (a := y)
        rw [this, List.mem_cons, ih.all, List.mem_cons, or_assoc]
      · have q3 := (ih.all y).2 (.inr q)
        rcases List.mem_cons.1 q2 with rfl | q2
        · exact absurd (notAt_iff y y |>.1 (List.mem_filter.1 q3).2) (by simp)
        · exact ih.dis y q q2
/-- Of a log's changes some have come, some are held, the others are left. -/
structure HoP (Y Z H R : List Ch) : Prop where
  gz : Good Z
  mem : ∀ x, x ∈ Y ↔ x ∈ Z ∨ x ∈ H ∨ x ∈ R
  hz : ∀ x ∈ H, x ∉ Z
  rz : ∀ x ∈ R, x ∉ Z ∧ x ∉ H
  nr : ∀ x ∈ H, readyB (clockL Z) x = false
  rs : Srt R
theorem HoP.start {Y : List Ch} (g : Good Y) : HoP Y [] [] Y := ⟨Good.none, fun x => by simp, fun x h => by simp at h, fun x _ => by simp, fun x h => by simp at h, g.srt⟩
theorem srtC_srt {Y L : List Ch} (g : Good Y) (hs : SrtC L) (hm : ∀ x ∈ L, x ∈ Y) : Srt L := by
  refine List.Pairwise.imp_of_mem (fun {x y} hx hy h => ?_) hs
  rw [ltB_iff]
  rcases h with h | ⟨h1, h | ⟨h2, h3⟩⟩
  · exact .inl h
  · exact .inr ⟨h1, h⟩
  · have := srt_inj g.srt (hm x hx) (hm y hy) ⟨h1, h2⟩
    subst this
    omega
theorem HoP.take {Y Z H R : List Ch} (g : Good Y) (hy : Y.length ≤ 256) (h : HoP Y Z H R) (hp : Plc H) (hs : SrtC H) {i : Nat} (hi : i < R.length) :
    (takeR 256 H (clockL Z) R[i]).2.2 = 0 ∧ AddOk Z (takeR 256 H (clockL Z) R[i]).2.1 ∧ HoP Y (addsL Z (takeR 256 H (clockL Z) R[i]).2.1) (takeR 256 H (clockL Z) R[i]).1 (R.eraseIdx i) := by
  have hcR : R[i] ∈ R := List.getElem_mem hi
  have hcY : R[i] ∈ Y := (h.mem _).2 (.inr (.inr hcR))
  have hcn := h.rz _ hcR
  have hzY : ∀ x ∈ Z, x ∈ Y := fun x q => (h.mem x).2 (.inl q)
  have hHY : ∀ x ∈ H, x ∈ Y := fun x q => (h.mem x).2 (.inr (.inl q))
  have hzl : Z.length < Y.length := srt_sub_lt h.gz.srt g.srt hzY hcY hcn.1
  have hHl : H.length < Y.length := srt_sub_lt (srtC_srt g hs hHY) g.srt hHY hcY hcn.2
  have hok : OkC (clockL Z) := clockL_okC (by omega)
  have hch : checkCh R[i] = 0 := (g.chk _ hcY)
  have hne : ∀ j (hj : j < R.length), j ≠ i → R[j] ≠ R[i] := fun j hj hji e => by
    rcases Nat.lt_or_gt_of_ne hji with q | q
    · have := srt_get h.rs hj hi q; rw [e, ltB_irr] at this; cases this
    · have := srt_get h.rs hi hj q; rw [e, ltB_irr] at this; cases this
  have hm : ∀ x, x ∈ R.eraseIdx i ↔ x ∈ R ∧ x ≠ R[i] := fun x => by
    rw [List.mem_eraseIdx_iff_getElem]
    constructor
    · rintro ⟨j, hj, hji, rfl⟩
      exact ⟨List.getElem_mem hj, hne j hj hji⟩
    · rintro ⟨hx, hn⟩
      obtain ⟨j, hj, rfl⟩ := List.getElem_of_mem hx
      exact ⟨j, hj, fun e => hn (by subst e; rfl), rfl⟩
  have hnew : newH H (clockL Z) R[i] = 0 := by
    unfold newH
    rw [if_neg (by rw [(checkL_ok _).2 hok]; simp), if_neg (by rw [hch]; simp), if_neg]
    rintro (q | q)
    · obtain ⟨d, hd⟩ := Option.isSome_iff_exists.1 q
      have h1 := List.mem_of_find?_eq_some hd
      have h2 := List.find?_some hd
      simp only [isOwn, decide_eq_true_eq] at h2
      exact hcn.2 (g.inj (hHY d h1) hcY h2.1 h2.2 ▸ h1)
    · exact hcn.1 ((within_iff g g h.gz (fun x q => q) hzY hcY).1 q)
  have hsub : Srt (R.eraseIdx i) := List.Pairwise.sublist (List.eraseIdx_sublist _ _) h.rs
  unfold takeR
  rw [if_neg (by rw [hnew]; simp)]
  by_cases hr : readyB (clockL Z) R[i] = true
  · rw [if_pos hr]
    have hw : whyR Z 256 R[i] = 0 := (ready_why g h.gz hzY hcY hcn.1 (by omega)).1 hr
    have hmem : ∀ y, y ∈ putC Z R[i] ↔ y = R[i] ∨ y ∈ Z := putC_mem Z _
    rw [← clock_put h.gz (by omega) hw]
    have run := run_all g hy H.length (putC Z R[i]) H (good_put h.gz hw) (fun y q => ((hmem y).1 q).elim (fun e => e ▸ hcY) (hzY y)) (fun x q => ⟨hHY x q, fun q2 => ((hmem x).1 q2).elim (fun e => hcn.2 (e ▸ q)) (h.hz x q)⟩) hp (Nat.le_refl _)
    have ea : addsL Z (R[i] :: (runL H.length (clockL (putC Z R[i])) H).1) = addsL (putC Z R[i]) (runL H.length (clockL (putC Z R[i])) H).1 := by
      unfold addsL
      rw [List.foldl_cons, addL_put hw]
    refine ⟨rfl, ⟨hw, by rw [addL_put hw]; exact run.ok⟩, ?_⟩
    simp only
    rw [ea]
    refine ⟨run.good, fun x => ?_, fun x q q2 => ?_, fun x q => ?_, run.nr, hsub⟩
    · rw [h.mem, run.mem, hmem, run.all, hm]
      by_cases e : x = R[i]
      · simp only [e, hcR, true_or, or_true]
      · simp only [e, false_or, ne_eq, not_false_eq_true, and_true]
        constructor
        · rintro (q | (q | q) | q)
          · exact .inl (.inl q)
          · exact .inl (.inr q)
          · exact .inr (.inl q)
          · exact .inr (.inr q)
        · rintro ((q | q) | q | q)
          · exact .inl q
          · exact .inr (.inl (.inl q))
          · exact .inr (.inl (.inr q))
          · exact .inr (.inr q)
    · have qH := (run.all x).2 (.inr q)
      rcases (run.mem x).1 q2 with q2 | q2
      · rcases (hmem x).1 q2 with rfl | q2
        · exact hcn.2 qH
        · exact h.hz x qH q2
      · exact run.dis x q q2
    · obtain ⟨q1, q2⟩ := (hm x).1 q
      have q3 := h.rz x q1
      refine ⟨fun q4 => ?_, fun q4 => q3.2 ((run.all x).2 (.inr q4))⟩
      rcases (run.mem x).1 q4 with q4 | q4
      · rcases (hmem x).1 q4 with q4 | q4
        · exact q2 q4
        · exact q3.1 q4
      · exact q3.2 ((run.all x).2 (.inl q4))
  · have hr2 : readyB (clockL Z) R[i] = false := by simpa using hr
    rw [if_neg hr, if_neg (by omega)]
    have hin : ∀ x, x ∈ insC H R[i] ↔ x = R[i] ∨ x ∈ H := fun x => by rw [(insC_perm R[i] H).mem_iff, List.mem_cons]
    refine ⟨rfl, trivial, ?_⟩
    simp only
    refine ⟨h.gz, fun x => ?_, fun x q => ?_, fun x q => ?_, fun x q => ?_, hsub⟩
    · show _ ↔ x ∈ Z ∨ _
      rw [h.mem, hin, hm]
      by_cases e : x = R[i]
      · simp only [e, hcR, true_or, or_true]
      · simp only [e, false_or, ne_eq, not_false_eq_true, and_true]
    · rcases (hin x).1 q with rfl | q
      · exact hcn.1
      · exact h.hz x q
    · obtain ⟨q1, q2⟩ := (hm x).1 q
      exact ⟨(h.rz x q1).1, fun q4 => ((hin x).1 q4).elim q2 (h.rz x q1).2⟩
    · rcases (hin x).1 q with rfl | q
      · exact hr2
      · exact h.nr x q
theorem HoP.done {Y Z H : List Ch} (g : Good Y) (hy : Y.length ≤ 256) (h : HoP Y Z H []) (hs : SrtC H) : H = [] ∧ Z = Y := by
  have hzY : ∀ x ∈ Z, x ∈ Y := fun x q => (h.mem x).2 (.inl q)
  have hHY : ∀ x ∈ H, x ∈ Y := fun x q => (h.mem x).2 (.inr (.inl q))
  have hH : H = [] := by
    cases H with
    | nil => rfl
    | cons y t =>
      exfalso
      have hyH : y ∈ y :: t := List.mem_cons_self
      have hyZ := h.hz y hyH
      have hzl : Z.length < Y.length := srt_sub_lt h.gz.srt g.srt hzY (hHY y hyH) hyZ
      have hsr := srtC_srt g hs hHY
      have hu : underB y.deps (clockL Z) = true := part_free g h.gz (hHY y hyH) fun x hx hl => by
        rcases (h.mem x).1 hx with q | q | q
        · exact q
        · rcases List.mem_cons.1 q with rfl | q
          · rw [ltB_irr] at hl; cases hl
          · have := (List.pairwise_cons.1 hsr).1 x q
            rw [ltB_no this] at hl; cases hl
        · simp at q
      have hw : whyR Z 256 y = 0 := by rw [part_why g h.gz hzY (hHY y hyH) hyZ (by omega), if_pos hu]
      have := (ready_why g h.gz hzY (hHY y hyH) hyZ (by omega)).2 hw
      rw [h.nr y hyH] at this
      cases this
  subst hH
  exact ⟨rfl, srt_ext h.gz.srt g.srt fun x => by rw [h.mem]; simp⟩

end Go.Proofs.Ythndgmnckpimmaa

namespace Go.Proofs.Ythndgmnckpimmaa
open Go.RowKit
set_option linter.unusedVariables false
set_option linter.unusedSimpArgs false

theorem from_lt (x : Int) {n : Nat} (h0 : 0 < n) (h1 : n ≤ 4096) : ∃ f : Nat, f < n ∧ wrap64 ((IntKind.u64.wrap x).tmod (n : Int)) = (f : Int) := by
  have hx : 0 ≤ IntKind.u64.wrap x := by show 0 ≤ x % 18446744073709551616; omega
  rw [Int.tmod_eq_emod_of_nonneg hx]
  have h2 : 0 ≤ IntKind.u64.wrap x % (n : Int) := Int.emod_nonneg _ (by omega)
  have h3 : IntKind.u64.wrap x % (n : Int) < n := Int.emod_lt_of_pos _ (by omega)
  refine ⟨(IntKind.u64.wrap x % (n : Int)).toNat, by omega, ?_⟩
  rw [Int.toNat_of_nonneg h2]
  unfold wrap64
  omega
theorem BufH.ok {F : Nat → Prop} {w : World} {v : Value} {room : Int} {H : List Ch} (h : BufH F w v room H) : Plc H ∧ SrtC H := by
  obtain ⟨D, h1, hp, hs⟩ := h
  have hok : HoldOk D := by
    rcases h1 with ⟨_, _, _, h⟩ | ⟨_, _, rfl, _⟩
    · exact h.ok
    · exact HoldOk.nil
  exact ⟨(show Plc (D.map Prod.fst) from List.pairwise_map.2 hok.apart).perm hp, hs⟩
theorem BufH.keep {F : Nat → Prop} {w w' : World} {v : Value} {room : Int} {H : List Ch} (h : BufH F w v room H) (hk : KeepsS F w w') : BufH F w' v room H := by
  obtain ⟨D, hv, hp, hs⟩ := h
  refine ⟨D, ?_, hp, hs⟩
  rcases hv with ⟨bb, mb, e, hb⟩ | q
  · exact .inl ⟨bb, mb, e, hb.keep hk⟩
  · exact .inr ⟨q.1, q.2.1, q.2.2.1, fun k hF => Nat.lt_of_lt_of_le (q.2.2.2 k hF) hk.1⟩
def BxL (b : Nat) (W : World) : Prop := W.heap[b]? = some (.cells #[.int .i64 0, .slice none 0 0] 52)
theorem BxL.below {b : Nat} {W W' : World} (h : BxL b W) (hb : Below W.heap.size W W') : BxL b W' := (hb.block _ (row_lt h)).trans h
theorem HFirm.none {G : Nat → Prop} {W : World} (h : ∀ k, G k → k < W.heap.size) : HFirm G W (.slice .none 0 0) [] := ⟨h, .none, 0, rfl, Nat.le_refl _, by simp, .inl rfl⟩
/-- The document's log alone, in its box. -/
structure DyS (w : World) (G : Nat → Prop) (Y : List Ch) (yb : Nat) (yv zc : Value) (W : World) : Prop where
  doc : HFirm G W yv Y
  box : W.heap[yb]? = some (.cells #[.int .i64 256, zc] 52)
  yG : ¬ G yb
  yw : w.heap.size ≤ yb
  bel : Below w.heap.size w W
section
variable {w W W' : World} {G : Nat → Prop} {Y Y' : List Ch} {yb : Nat} {yv zc yv' : Value}
theorem DyS.below (h : DyS w G Y yb yv zc W) (hb : Below W.heap.size W W') : DyS w G Y yb yv zc W' := ⟨h.doc.below hb, (hb.block _ (row_lt h.box)).trans h.box, h.yG, h.yw, h.bel.trans (hb.mono h.bel.size)⟩
theorem DyS.add (h : DyS w G Y yb yv zc W) (hb : Below W.heap.size W W') (hf : HFirm (fun k => G k ∨ (W.heap.size ≤ k ∧ k < W'.heap.size)) W' yv' Y') : DyS w (fun k => G k ∨ (W.heap.size ≤ k ∧ k < W'.heap.size)) Y' yb yv' zc W' :=
  have h2 := h.below hb
  ⟨hf, h2.box, fun q => q.elim h.yG (fun q => by have := row_lt h.box; omega), h.yw, h2.bel⟩
theorem DyS.put (h : DyS w G Y yb yv zc W) : DyS w G Y yb yv yv ((W.setCell ⟨yb, 0, none⟩ (.int .i64 256)).setCell ⟨yb, 1, none⟩ yv) :=
  ⟨h.doc.keep ⟨by simp [World.setCell], fun k q => (RowKit.Below.heap_setCell _ _ _ _ (fun (e : k = yb) => h.yG (e ▸ q))).trans (RowKit.Below.heap_setCell _ _ _ _ (fun (e : k = yb) => h.yG (e ▸ q)))⟩, row_set2 h.box, h.yG, h.yw, (h.bel.setCell (p := ⟨yb, 0, none⟩) h.yw _).setCell (p := ⟨yb, 1, none⟩) h.yw _⟩
end
structure AlS (w : World) (bb : Nat) (F G : Nat → Prop) (H Y Z R O : List Ch) (yb zb : Nat) (yv zv zc rv gv : Value) (W : World) : Prop where
  buf : BufH F W (.pointer (some ⟨bb, 0, none⟩)) 256 H
  dy : HFirm G W yv Y
  dz : HFirm G W zv Z
  rest : HFirm G W rv R
  got : HFirm G W gv O
  ybox : W.heap[yb]? = some (.cells #[.int .i64 256, yv] 52)
  zbox : W.heap[zb]? = some (.cells #[.int .i64 256, zc] 52)
  fg : ∀ k, F k → ¬ G k ∧ k ≠ yb ∧ k ≠ zb ∧ w.heap.size ≤ k
  yG : ¬ G yb
  zG : ¬ G zb
  yz : yb ≠ zb
  zw : w.heap.size ≤ zb
  bel : Below w.heap.size w W
section
variable {w W W' : World} {bb : Nat} {F F' G G' : Nat → Prop} {H H' Y Z R O Z' R' O' : List Ch} {yb zb : Nat} {yv zv zc rv gv zv' rv' gv' : Value}
theorem AlS.lt (h : AlS w bb F G H Y Z R O yb zb yv zv zc rv gv W) : ∀ k, (F k ∨ G k ∨ k = yb ∨ k = zb) → k < W.heap.size := by
  rintro k (q | q | rfl | rfl)
  · exact h.buf.lt k q
  · exact h.dy.1 k q
  · exact row_lt h.ybox
  · exact row_lt h.zbox
theorem AlS.keep (h : AlS w bb F G H Y Z R O yb zb yv zv zc rv gv W) (hk : KeepsS (fun k => F k ∨ G k ∨ k = yb ∨ k = zb) W W') (hb : Below w.heap.size w W') : AlS w bb F G H Y Z R O yb zb yv zv zc rv gv W' :=
  have kg : KeepsS G W W' := hk.mono fun k q => .inr (.inl q)
  ⟨h.buf.keep (hk.mono fun k q => .inl q), h.dy.keep kg, h.dz.keep kg, h.rest.keep kg, h.got.keep kg, (hk.2 yb (.inr (.inr (.inl rfl)))).trans h.ybox, (hk.2 zb (.inr (.inr (.inr rfl)))).trans h.zbox, h.fg, h.yG, h.zG, h.yz, h.zw, hb⟩
theorem AlS.below (h : AlS w bb F G H Y Z R O yb zb yv zv zc rv gv W) (hb : Below W.heap.size W W') : AlS w bb F G H Y Z R O yb zb yv zv zc rv gv W' := h.keep (KeepsS.of_below hb h.lt) (h.bel.trans (hb.mono h.bel.size))
theorem AlS.take (h : AlS w bb F G H Y Z R O yb zb yv zv zc rv gv W) (hL : BufH F' W' (.pointer (some ⟨bb, 0, none⟩)) 256 H') (hF : ∀ k, F' k → F k ∨ W.heap.size ≤ k) (ht : Touch F W W') : AlS w bb F' G H' Y Z R O yb zb yv zv zc rv gv W' := by
  have kg : KeepsS G W W' := ht.keeps fun k q => ⟨h.dy.1 k q, fun q2 => (h.fg k q2).1 q⟩
  refine ⟨hL, h.dy.keep kg, h.dz.keep kg, h.rest.keep kg, h.got.keep kg, (ht.block _ (row_lt h.ybox) (fun q => (h.fg _ q).2.1 rfl)).trans h.ybox, (ht.block _ (row_lt h.zbox) (fun q => (h.fg _ q).2.2.1 rfl)).trans h.zbox, fun k q => ?_, h.yG, h.zG, h.yz, h.zw, h.bel.trans (ht.below (fun k q => (h.fg k q).2.2.2) h.bel.size)⟩
  rcases hF k q with q | q
  · exact h.fg k q
  · exact ⟨fun q2 => by have := h.dy.1 k q2; omega, by have := row_lt h.ybox; omega, by have := row_lt h.zbox; omega, Nat.le_trans h.bel.size q⟩
/-- The set of blocks grows by some that are new, and not the buffer's. -/
theorem AlS.grow (h : AlS w bb F G H Y Z R O yb zb yv zv zc rv gv W) (hG : ∀ k, G k → G' k) (hG2 : ∀ k, G' k → G k ∨ (¬ F k ∧ k ≠ yb ∧ k ≠ zb)) (hl : ∀ k, G' k → k < W.heap.size) : AlS w bb F G' H Y Z R O yb zb yv zv zc rv gv W :=
  ⟨h.buf, h.dy.mono hG hl, h.dz.mono hG hl, h.rest.mono hG hl, h.got.mono hG hl, h.ybox, h.zbox, fun k q => ⟨fun q2 => (hG2 k q2).elim (h.fg k q).1 (fun q3 => q3.1 q), (h.fg k q).2⟩, fun q => (hG2 yb q).elim h.yG (fun q3 => q3.2.1 rfl), fun q => (hG2 zb q).elim h.zG (fun q3 => q3.2.2 rfl), h.yz, h.zw, h.bel⟩
theorem AlS.growB (h : AlS w bb F G H Y Z R O yb zb yv zv zc rv gv W) (hb : Below W.heap.size W W') : AlS w bb F (fun k => G k ∨ (W.heap.size ≤ k ∧ k < W'.heap.size)) H Y Z R O yb zb yv zv zc rv gv W' :=
  (h.below hb).grow (fun k q => .inl q) (fun k q => q.imp id (fun q => ⟨fun q2 => by have := h.buf.lt k q2; omega, by have := row_lt h.ybox; omega, by have := row_lt h.zbox; omega⟩)) (fun k q => q.elim (fun q => Nat.lt_of_lt_of_le (h.dy.1 k q) hb.size) (fun q => q.2))
theorem AlS.zTo (h : AlS w bb F G H Y Z R O yb zb yv zv zc rv gv W) (hf : HFirm G W zv' Z') : AlS w bb F G H Y Z' R O yb zb yv zv' zc rv gv W := ⟨h.buf, h.dy, hf, h.rest, h.got, h.ybox, h.zbox, h.fg, h.yG, h.zG, h.yz, h.zw, h.bel⟩
theorem AlS.rTo (h : AlS w bb F G H Y Z R O yb zb yv zv zc rv gv W) (hf : HFirm G W rv' R') : AlS w bb F G H Y Z R' O yb zb yv zv zc rv' gv W := ⟨h.buf, h.dy, h.dz, hf, h.got, h.ybox, h.zbox, h.fg, h.yG, h.zG, h.yz, h.zw, h.bel⟩
theorem AlS.gTo (h : AlS w bb F G H Y Z R O yb zb yv zv zc rv gv W) (hf : HFirm G W gv' O') : AlS w bb F G H Y Z R O' yb zb yv zv zc rv gv' W := ⟨h.buf, h.dy, h.dz, h.rest, hf, h.ybox, h.zbox, h.fg, h.yG, h.zG, h.yz, h.zw, h.bel⟩
theorem AlS.fresh (h : AlS w bb F G H Y Z R O yb zb yv zv zc rv gv W) : ¬ (F W.heap.size ∨ G W.heap.size ∨ W.heap.size = yb ∨ W.heap.size = zb) ∧ w.heap.size ≤ W.heap.size := ⟨fun q => by have := h.lt _ q; omega, h.bel.size⟩
theorem AlS.far (h : AlS w bb F G H Y Z R O yb zb yv zv zc rv gv W) {x i : Nat} {v : Value} (hz : ¬ (F x ∨ G x ∨ x = yb ∨ x = zb) ∧ w.heap.size ≤ x) : AlS w bb F G H Y Z R O yb zb yv zv zc rv gv (W.setCell ⟨x, i, none⟩ v) :=
  h.keep ⟨by simp [World.setCell], fun k hk => RowKit.Below.heap_setCell _ _ _ _ (fun (e : k = x) => hz.1 (e ▸ hk))⟩ (h.bel.setCell (p := ⟨x, i, none⟩) hz.2 _)
theorem AlS.put (h : AlS w bb F G H Y Z R O yb zb yv zv zc rv gv W) : AlS w bb F G H Y Z R O yb zb yv zv zv rv gv ((W.setCell ⟨zb, 0, none⟩ (.int .i64 256)).setCell ⟨zb, 1, none⟩ zv) := by
  have far : ∀ k, k ≠ zb → ((W.setCell ⟨zb, 0, none⟩ (.int .i64 256)).setCell ⟨zb, 1, none⟩ zv).heap[k]? = W.heap[k]? := fun k hk => (RowKit.Below.heap_setCell _ _ _ _ hk).trans (RowKit.Below.heap_setCell _ _ _ _ hk)
  have hs : W.heap.size ≤ ((W.setCell ⟨zb, 0, none⟩ (.int .i64 256)).setCell ⟨zb, 1, none⟩ zv).heap.size := by simp [World.setCell]
  have kg : KeepsS G W ((W.setCell ⟨zb, 0, none⟩ (.int .i64 256)).setCell ⟨zb, 1, none⟩ zv) := ⟨hs, fun k q => far k (fun e => h.zG (e ▸ q))⟩
  exact ⟨h.buf.keep ⟨hs, fun k q => far k (h.fg k q).2.2.1⟩, h.dy.keep kg, h.dz.keep kg, h.rest.keep kg, h.got.keep kg, (far _ h.yz).trans h.ybox, row_set2 h.zbox, h.fg, h.yG, h.zG, h.yz, h.zw, (h.bel.setCell (p := ⟨zb, 0, none⟩) h.zw _).setCell (p := ⟨zb, 1, none⟩) h.zw _⟩
end

end Go.Proofs.Ythndgmnckpimmaa

namespace Go.Proofs.Ythndgmnckpimmaa
open Go.RowKit
set_option linter.unusedVariables false
set_option linter.unusedSimpArgs false

theorem takeR_out {room : Int} {H : List Ch} {kn : List Int} {c : Ch} : (takeR room H kn c).2.1.length ≤ H.length + 1 := by
  unfold takeR
  split
  · simp
  · split
    · have := runL_len H.length (tickR kn c.ar) H
      simp only [List.length_cons]
      omega
    · split <;> simp

set_option maxRecDepth 100000 in
set_option maxHeartbeats 16000000 in
theorem allWalk (v : Value) (l : List Ch) (ov : Value) (od : List Int) (w : World) (h : IsH w v l) (ho : IsI w ov od) :
    Calls Try.prog 4 #[v, ov] w fun e w' => e = .returned (.bool true) ∧ Below w.heap.size w w' := by
  have HH : Hid (IsH w v l) := h
  obtain ⟨a1, c1, e1⟩ := h.form
  subst e1
  have HO : Hid (IsI w ov od) := ho
  obtain ⟨a2, c2, e2⟩ := ho.form
  subst e2
  obtain ⟨W1, eW1⟩ : ∃ X, X = w.alloc (.cells #[.int .i64 256, .slice none 0 0] 52) := ⟨_, rfl⟩
  obtain ⟨yb, eyb⟩ : ∃ b, b = w.heap.size := ⟨_, rfl⟩
  have hb1 : Below w.heap.size w W1 := by rw [eW1]; exact (Below.refl _ _).alloc (Nat.le_refl _) _
  have HA1 : Hid (DyS w (fun _ => False) [] yb (.slice none 0 0) (.slice none 0 0) W1) := ⟨HFirm.none fun k q => q.elim, by rw [eyb, eW1]; exact heap_alloc_new _ _, fun q => q, by omega, hb1⟩
  have HG1 : Hid (Good []) := Good.none
  clear h ho hb1
  go_enter Try.func4, Try.ntmps4
  go_wp2
  rw [← eW1, ← eyb]
  clear eW1 eyb
  go_loopw [6] (fun iv wr => ∃ (i : Nat) (Y : List Ch) (G : Nat → Prop) (yv : Value), i ≤ l.length ∧ iv = .int .i64 (i : Int) ∧ Y.length ≤ 256 ∧ Hid (DyS w G Y yb yv yv wr) ∧ Hid (Good Y)) (fun iv _ => l.length - (intOf iv).toNat)
  case atStart => exact ⟨0, [], _, _, Nat.zero_le _, rfl, by simp, HA1, HG1⟩
  case round =>
    obtain ⟨i, Y, G, yv, hi, rfl, hYl, HA, HGd⟩ := hrel
    clear HA1 HG1
    obtain ⟨ay, cy, ey⟩ := HA.out.doc.isH.form
    subst ey
    by_cases hlt : i < l.length
    · obtain ⟨_, _, e, _, hll, hrow⟩ := HH.out
      cases e
      obtain ⟨b, o, rfl, hrow2⟩ := hrow.resolve_left (by intro e; subst e; simp at hlt)
      obtain ⟨a3, c3, hI3, hS3, q_0, q_1, q_2, q_3, q_4, q_5, q_6, q_7, q_8, q_9, q_10, q_11, q_12⟩ := (hrow2 i hlt).all
      have hbl : b < w.heap.size := cell_lt q_0
      have i1 : (i : Int) < (l.length : Int) := by omega
      have i0 : (0 : Int) ≤ (i : Int) := by omega
      clear hrow hrow2
      generalize l[i] = x at *
      obtain ⟨ac, ar, sq, ds, kd, nc, nr, pc, pr, fc, fr, nm, vl⟩ := x
      simp only at q_0 q_1 q_2 q_3 q_4 q_5 q_6 q_7 q_8 q_9 q_10 q_11 q_12 hI3 hS3
      have HC : Hid (∀ W', Below w.heap.size w W' → W'.cell? ⟨b, o + i * 13, none⟩ = some (.int .i64 ac) ∧ W'.cell? ⟨b, o + i * 13 + 1, none⟩ = some (.int .i64 ar) ∧ W'.cell? ⟨b, o + i * 13 + 2, none⟩ = some (.int .i64 sq) ∧ W'.cell? ⟨b, o + i * 13 + 3, none⟩ = some (.slice a3 ds.length c3) ∧ W'.cell? ⟨b, o + i * 13 + 4, none⟩ = some (.int .i64 kd) ∧ W'.cell? ⟨b, o + i * 13 + 5, none⟩ = some (.int .i64 nc) ∧ W'.cell? ⟨b, o + i * 13 + 6, none⟩ = some (.int .i64 nr) ∧ W'.cell? ⟨b, o + i * 13 + 7, none⟩ = some (.int .i64 pc) ∧ W'.cell? ⟨b, o + i * 13 + 8, none⟩ = some (.int .i64 pr) ∧ W'.cell? ⟨b, o + i * 13 + 9, none⟩ = some (.int .i64 fc) ∧ W'.cell? ⟨b, o + i * 13 + 10, none⟩ = some (.int .i64 fr) ∧ W'.cell? ⟨b, o + i * 13 + 11, none⟩ = some (.string nm) ∧ W'.cell? ⟨b, o + i * 13 + 12, none⟩ = some (.string vl)) := fun W' hb => ⟨(hb.cell (p := ⟨b, o + i * 13, none⟩) hbl).trans q_0, (hb.cell (p := ⟨b, o + i * 13 + 1, none⟩) hbl).trans q_1, (hb.cell (p := ⟨b, o + i * 13 + 2, none⟩) hbl).trans q_2, (hb.cell (p := ⟨b, o + i * 13 + 3, none⟩) hbl).trans q_3, (hb.cell (p := ⟨b, o + i * 13 + 4, none⟩) hbl).trans q_4, (hb.cell (p := ⟨b, o + i * 13 + 5, none⟩) hbl).trans q_5, (hb.cell (p := ⟨b, o + i * 13 + 6, none⟩) hbl).trans q_6, (hb.cell (p := ⟨b, o + i * 13 + 7, none⟩) hbl).trans q_7, (hb.cell (p := ⟨b, o + i * 13 + 8, none⟩) hbl).trans q_8, (hb.cell (p := ⟨b, o + i * 13 + 9, none⟩) hbl).trans q_9, (hb.cell (p := ⟨b, o + i * 13 + 10, none⟩) hbl).trans q_10, (hb.cell (p := ⟨b, o + i * 13 + 11, none⟩) hbl).trans q_11, (hb.cell (p := ⟨b, o + i * 13 + 12, none⟩) hbl).trans q_12⟩
      have HIc : Hid (IsI w (.slice a3 ds.length c3) ds) := hI3
      have HSz : Hid (Sized (⟨ac, ar, sq, ds, kd, nc, nr, pc, pr, fc, fr, nm, vl⟩ : Ch)) := hS3
      clear hI3 hS3 q_0 q_1 q_2 q_3 q_4 q_5 q_6 q_7 q_8 q_9 q_10 q_11 q_12 hbl
      go_upto_region 5 with fail
      refine wp_region_held_drew (S := fun W' => Below w.heap.size w W') (by kernel_rfl) (HA.out.bel.trans ((Below.refl _ _).drew.mono HA.out.bel.size)) (fun hHeld => ?_)
      obtain ⟨Ug1u0, eW⟩ : ∃ X, X = wr.drew := ⟨_, rfl⟩
      have hb : Below wr.heap.size wr Ug1u0 := by rw [eW]; exact (Below.refl _ _).drew
      replace HA : Hid (DyS w G Y yb (.slice ay Y.length cy) (.slice ay Y.length cy) Ug1u0) := HA.out.below hb
      rw [← eW] at hHeld ⊢
      clear eW hb
      refine tkW 1 (some 28) (v := ?_) ?_ hHeld ?_
      rotate_left
      · (intro w _; go_simp; try with_reducible rfl)
      refine tkW 2 (some 29) (v := ?_) ?_ hHeld ?_
      rotate_left
      · (intro w _; go_simp; try with_reducible rfl)
      refine tkW 3 (some 30) (v := ?_) ?_ hHeld ?_
      rotate_left
      · (intro w hSw; (try dsimp only at hSw); have hk := hSw; obtain ⟨k_0, k_1, k_2, k_3, k_4, k_5, k_6, k_7, k_8, k_9, k_10, k_11, k_12⟩ := HC.out _ hk; go_simp; try with_reducible rfl)
      refine tkW 4 (some 31) (v := ?_) ?_ hHeld ?_
      rotate_left
      · (intro w hSw; (try dsimp only at hSw); have hk := hSw; obtain ⟨k_0, k_1, k_2, k_3, k_4, k_5, k_6, k_7, k_8, k_9, k_10, k_11, k_12⟩ := HC.out _ hk; go_simp; try with_reducible rfl)
      refine wpAnyH_ready (rs := [0]) (by kernel_rfl) (by simp) ?_
      refine AllReadyH.cons (o := ⟨some 27, _, _, _, _, _⟩) rfl (fun K hK => ?_) AllReadyH.nil
      obtain ⟨x_0, x_1, _, _⟩ := row2_cells HA.out.box
      go_simp
      refine hK.out _ _ (hHeld) (fun hHeld2 => ?_)
      clear hK K hHeld
      have hHeld := hHeld2
      clear hHeld2
      (try simp only [Act.put, List.setIfInBounds_toArray, List.set_cons_zero, List.set_cons_succ])
      clear x_0 x_1
      refine wpAnyH_ready (rs := [5]) (by kernel_rfl) (by simp) ?_
      refine AllReadyH.cons (o := ⟨some 32, _, _, _, _, _⟩) rfl (fun K hK => ?_) AllReadyH.nil
      have HN6 : Hid (DyS w G Y yb (.slice ay Y.length cy) (.slice ay Y.length cy) Ug1u0) := HA.out
      go_simp
      refine (refAdd_any G _ Y 256 ac ar sq (.slice a3 ds.length c3) kd nc nr pc pr fc fr nm vl ds Ug1u0 HA.out.doc (HIc.out.below HA.out.bel) HSz.out (by omega)).mono ?_
      rintro e Ug1u2 ⟨v6, rfl, hf6, hb⟩
      (try go_wp2_with fail)
      refine hK.out _ _ (hHeld.trans (hb.mono hHeld.size)) (fun hHeld2 => ?_)
      clear hK K hHeld
      have hHeld := hHeld2
      clear hHeld2
      (try simp only [Act.put, List.setIfInBounds_toArray, List.set_cons_zero, List.set_cons_succ])
      obtain ⟨a6, c6, e6⟩ := hf6.isH.form
      subst e6
      obtain ⟨G2, eG2⟩ : ∃ G2 : Nat → Prop, G2 = fun k => G k ∨ (Ug1u0.heap.size ≤ k ∧ k < Ug1u2.heap.size) := ⟨_, rfl⟩
      have HF6 : Hid (DyS w G2 (addL Y 256 (⟨ac, ar, sq, ds, kd, nc, nr, pc, pr, fc, fr, nm, vl⟩ : Ch)) yb (.slice a6 (addL Y 256 (⟨ac, ar, sq, ds, kd, nc, nr, pc, pr, fc, fr, nm, vl⟩ : Ch)).length c6) (.slice ay Y.length cy) Ug1u2) := by rw [eG2]; exact HN6.out.add hb hf6
      clear hf6 eG2 HN6 HA
      refine tkW 6 (some 26) (v := ?_) ?_ hHeld ?_
      rotate_left
      · (intro w _; go_simp; try with_reducible rfl)
      refine tkW 7 (some 33) (v := ?_) ?_ hHeld ?_
      rotate_left
      · (intro w _; go_simp; try with_reducible rfl)
      refine tkW 8 (some 34) (v := ?_) ?_ hHeld ?_
      rotate_left
      · (intro w _; go_simp; try with_reducible rfl)
      refine wpAnyH_ready (rs := [9]) (by kernel_rfl) (by simp) ?_
      refine AllReadyH.cons (o := ⟨none, _, _, _, _, _⟩) rfl (fun K hK => ?_) AllReadyH.nil
      obtain ⟨r_0, r_1, r_2, r_3⟩ := row2_cells HF6.out.box
      go_simp
      refine hK.out _ _ (HF6.out.put.bel) (fun hHeld2 => ?_)
      clear hK K hHeld
      have hHeld := hHeld2
      clear hHeld2
      (try simp only [Act.put, List.setIfInBounds_toArray, List.set_cons_zero, List.set_cons_succ])
      have HA9 : Hid (DyS w G2 (addL Y 256 (⟨ac, ar, sq, ds, kd, nc, nr, pc, pr, fc, fr, nm, vl⟩ : Ch)) yb (.slice a6 (addL Y 256 (⟨ac, ar, sq, ds, kd, nc, nr, pc, pr, fc, fr, nm, vl⟩ : Ch)).length c6) (.slice a6 (addL Y 256 (⟨ac, ar, sq, ds, kd, nc, nr, pc, pr, fc, fr, nm, vl⟩ : Ch)).length c6) ((Ug1u2.setCell ⟨yb, 0, none⟩ (.int .i64 256)).setCell ⟨yb, 1, none⟩ (.slice a6 (addL Y 256 (⟨ac, ar, sq, ds, kd, nc, nr, pc, pr, fc, fr, nm, vl⟩ : Ch)).length c6))) := HF6.out.put
      obtain ⟨W9, eW9⟩ : ∃ X, X = ((Ug1u2.setCell ⟨yb, 0, none⟩ (.int .i64 256)).setCell ⟨yb, 1, none⟩ (.slice a6 (addL Y 256 (⟨ac, ar, sq, ds, kd, nc, nr, pc, pr, fc, fr, nm, vl⟩ : Ch)).length c6)) := ⟨_, rfl⟩
      rw [← eW9] at HA9 hHeld ⊢
      clear eW9 r_0 r_1 r_2 r_3 HF6
      refine wpAnyH_done (by kernel_rfl) ?_ _
      clear hHeld
      have hY9 : ((addL Y 256 (⟨ac, ar, sq, ds, kd, nc, nr, pc, pr, fc, fr, nm, vl⟩ : Ch)).length : Int) ≤ 256 := addL_room (by omega)
      have HG9 : Hid (Good (addL Y 256 (⟨ac, ar, sq, ds, kd, nc, nr, pc, pr, fc, fr, nm, vl⟩ : Ch))) := addL_good HGd.out _ _
      obtain ⟨Y9, eY9⟩ : ∃ X, X = (addL Y 256 (⟨ac, ar, sq, ds, kd, nc, nr, pc, pr, fc, fr, nm, vl⟩ : Ch)) := ⟨_, rfl⟩
      rw [← eY9] at HA9 HG9 hY9 ⊢
      clear eY9
      generalize whyR Y 256 (⟨ac, ar, sq, ds, kd, nc, nr, pc, pr, fc, fr, nm, vl⟩ : Ch) = we at *
      go_wp2
      go_roundw
      case rel => exact ⟨i + 1, Y9, G2, _, by omega, by go_num, by omega, HA9, HG9⟩
      case measure => simp [intOf]; omega
    · have hdone := hlt
      go_wp2_with fail
      refine (new_any 256 _).mono ?_
      rintro e w2 ⟨h, hb2⟩
      rcases h with ⟨h, _⟩ | ⟨_, bb, mb, rfl, hL, hF1, hF2⟩
      · omega
      obtain ⟨w3, eW3⟩ : ∃ X, X = w2.alloc (.cells #[.int .i64 256, .slice none 0 0] 52) := ⟨_, rfl⟩
      obtain ⟨zb, ezb⟩ : ∃ b, b = w2.heap.size := ⟨_, rfl⟩
      have hb3 : Below w2.heap.size w2 w3 := by rw [eW3]; exact (Below.refl _ _).alloc (Nat.le_refl _) _
      have HA3 : Hid (AlS w bb (fun k => k = mb ∨ k = bb) G [] Y [] [] [] yb zb (.slice ay Y.length cy) (.slice none 0 0) (.slice none 0 0) (.slice none 0 0) (.slice none 0 0) w3) := by
        have h1 := hb2.size
        have h2 := row_lt HA.out.box
        have h3 := HA.out.bel.size
        have h4 : mb < w2.heap.size ∧ bb < w2.heap.size := ⟨hL.lt mb (.inl rfl), hL.lt bb (.inr rfl)⟩
        have hd := (HA.out.below hb2).below hb3
        refine ⟨BufH.below ⟨[], hL.v, List.Perm.refl _, List.Pairwise.nil⟩ hb3, hd.doc, HFirm.none hd.doc.1, HFirm.none hd.doc.1, HFirm.none hd.doc.1, hd.box, by rw [ezb, eW3]; exact heap_alloc_new _ _, fun k q => ?_, hd.yG, fun q => by have := HA.out.doc.1 _ q; omega, by omega, by omega, hd.bel⟩
        have h5 : wr.heap.size ≤ k ∧ k < w2.heap.size := by rcases q with rfl | rfl <;> omega
        exact ⟨fun q => by have := HA.out.doc.1 _ q; omega, by omega, by omega, by omega⟩
      obtain ⟨y_0, y_1, _, _⟩ := row2_cells HA3.out.ybox
      rw [eW3] at y_0 y_1
      clear hL hF1 hF2 hb2 hb3 HA
      go_wp2_with fail
      rw [← eW3]
      (try rw [← ezb])
      clear eW3 ezb y_0 y_1
      refine (refCopyAll_any _ Y _ HA3.out.dy.isH (by omega)).mono ?_
      rintro e w4 ⟨aq, cq, E, rfl, hA4, hE4, hb4⟩
      have hEl : E.length = Y.length := by rw [← hE4]; simp
      have HA4 : Hid (AlS w bb (fun k => k = mb ∨ k = bb) (fun k => G k ∨ (w3.heap.size ≤ k ∧ k < w4.heap.size)) [] Y [] Y [] yb zb (.slice ay Y.length cy) (.slice none 0 0) (.slice none 0 0) (.slice aq Y.length cq) (.slice none 0 0) w4) := by
        have hg := HA3.out.growB hb4
        have hf := HFirm.ofOwn (G := fun k => G k ∨ (w3.heap.size ≤ k ∧ k < w4.heap.size)) (G2 := fun k => w3.heap.size ≤ k ∧ k < w4.heap.size) hA4.own (by omega) (fun x hx => ⟨IsG.own (hA4.dep x hx).1 (hA4.dep x hx).2.2 (fun k h1 h2 => ⟨h1, h2⟩), (hA4.dep x hx).2.1⟩) (fun k q => .inr q) (fun k h1 h2 => .inr ⟨h1, h2⟩) hg.dy.1
        rw [hE4] at hf
        exact hg.rTo hf
      have HP4 : Hid (HoP Y [] [] Y) := HoP.start HGd.out
      clear hA4 hE4 hb4 HA3 hEl
      go_wp2
      go_loopw [10, 11] (fun rv tv wr => ∃ (t : Nat) (Z H R : List Ch) (F G : Nat → Prop) (zv : Value), tv = .int .i64 (t : Int) ∧ t + R.length = Y.length ∧ Hid (AlS w bb F G H Y Z R [] yb zb (.slice ay Y.length cy) zv zv rv (.slice none 0 0) wr) ∧ Hid (HoP Y Z H R)) (fun _ tv _ => Y.length - (intOf tv).toNat)
      case atStart => exact ⟨0, [], [], Y, _, _, _, rfl, by omega, HA4, HP4⟩
      case round =>
        obtain ⟨t, Z, H, R, F, G, zv, rfl, hlt, HA, HP⟩ := hrel
        clear HA4 HP4
        by_cases h0 : 0 < R.length
        · obtain ⟨b, o, cap, _, rfl, _, _, _, _, _⟩ := HA.out.rest.row (by intro e; rw [e] at h0; simp at h0)
          obtain ⟨az, cz, ez⟩ := HA.out.dz.isH.form
          subst ez
          have r0 : (0 : Int) < (R.length : Int) := by omega
          have hR : R.length ≤ 4096 := by omega
          have HBo : Hid (Plc H ∧ SrtC H) := HA.out.buf.ok
          have HHl : Hid (H.length ≤ 256 ∧ True) := ⟨Nat.le_trans (srt_sub (srtC_srt HGd.out HA.out.buf.ok.2 (fun x q => (HP.out.mem x).2 (.inr (.inl q)))) HGd.out.srt (fun x q => (HP.out.mem x).2 (.inr (.inl q)))) (by omega), trivial⟩
          go_upto_if 57 with fail
          go_cut [12] from 49 to 110 (fun v W => ∃ f : Nat, f < R.length ∧ v = .int .i64 (f : Int) ∧ W = wr)
          case first =>
            by_cases hto : t < od.length
            · obtain ⟨_, _, e, _, hol, hrow⟩ := HO.out
              cases e
              obtain ⟨b9, o9, rfl, hrow2⟩ := hrow.resolve_left (by intro e; subst e; simp at hto)
              have q9 := (HA.out.bel.cell (p := ⟨b9, o9 + t, none⟩) (cell_lt (hrow2 t hto))).trans (hrow2 t hto)
              have t1 : (t : Int) < (od.length : Int) := by omega
              have t0 : (0 : Int) ≤ (t : Int) := by omega
              clear hrow hrow2
              obtain ⟨f, hf, ef⟩ := from_lt od[t] h0 hR
              have HEf : Hid (wrap64 ((IntKind.u64.wrap od[t]).tmod (R.length : Int)) = (f : Int)) := ef
              clear ef
              go_wp2_with fail
              go_meet
              case rel => exact ⟨f, hf, by rw [← HEf.out], rfl⟩
            · have t2 : decide ((t : Int) < (od.length : Int)) = false := by simp; omega
              have t1 : ¬ (t : Int) < (od.length : Int) := by omega
              go_wp2_with fail
              go_meet
              case rel => exact ⟨0, h0, rfl, rfl⟩
          case rest =>
            obtain ⟨i, hi, rfl, rfl⟩ := hcut
            obtain ⟨_, _, e, _, hone⟩ := HA.out.rest.one
            simp only [Value.slice.injEq] at e
            obtain ⟨e1, _, e3⟩ := e
            obtain ⟨b', o', a3, c3, eb, hI3, hS3, hcl⟩ := hone i hi
            rw [← e1] at eb
            simp only [Option.some.injEq, Addr.mk.injEq] at eb
            obtain ⟨rfl, rfl, _⟩ := eb
            obtain ⟨x, ex⟩ : ∃ x, x = R[i] := ⟨_, rfl⟩
            have HX0 : Hid (x = R[i]) := ex
            rw [← ex] at hI3 hS3 hcl
            clear ex hone e1 e3
            obtain ⟨ac, ar, sq, ds, kd, nc, nr, pc, pr, fc, fr, nm, vl⟩ := x
            simp only at hI3 hcl
            have HC : Hid (∀ W', KeepsS G wc W' → W'.cell? ⟨b, o + i * 13, none⟩ = some (.int .i64 ac) ∧ W'.cell? ⟨b, o + i * 13 + 1, none⟩ = some (.int .i64 ar) ∧ W'.cell? ⟨b, o + i * 13 + 2, none⟩ = some (.int .i64 sq) ∧ W'.cell? ⟨b, o + i * 13 + 3, none⟩ = some (.slice a3 ds.length c3) ∧ W'.cell? ⟨b, o + i * 13 + 4, none⟩ = some (.int .i64 kd) ∧ W'.cell? ⟨b, o + i * 13 + 5, none⟩ = some (.int .i64 nc) ∧ W'.cell? ⟨b, o + i * 13 + 6, none⟩ = some (.int .i64 nr) ∧ W'.cell? ⟨b, o + i * 13 + 7, none⟩ = some (.int .i64 pc) ∧ W'.cell? ⟨b, o + i * 13 + 8, none⟩ = some (.int .i64 pr) ∧ W'.cell? ⟨b, o + i * 13 + 9, none⟩ = some (.int .i64 fc) ∧ W'.cell? ⟨b, o + i * 13 + 10, none⟩ = some (.int .i64 fr) ∧ W'.cell? ⟨b, o + i * 13 + 11, none⟩ = some (.string nm) ∧ W'.cell? ⟨b, o + i * 13 + 12, none⟩ = some (.string vl)) := fun W' hk => chAll (hcl W' hk)
            have HIc : Hid (∀ W', KeepsS G wc W' → IsI W' (.slice a3 ds.length c3) ds) := fun W' hk => (hI3.keep hk).isI
            have HSz : Hid (Sized (⟨ac, ar, sq, ds, kd, nc, nr, pc, pr, fc, fr, nm, vl⟩ : Ch)) := hS3
            have HOl : Hid ((takeR 256 H (clockL Z) (⟨ac, ar, sq, ds, kd, nc, nr, pc, pr, fc, fr, nm, vl⟩ : Ch)).2.1.length ≤ 4096) := by have := takeR_out (room := 256) (H := H) (kn := clockL Z) (c := (⟨ac, ar, sq, ds, kd, nc, nr, pc, pr, fc, fr, nm, vl⟩ : Ch)); have := HHl.out; show _ ≤ _; omega
            have i1 : (i : Int) < (R.length : Int) := by omega
            have i0 : (0 : Int) ≤ (i : Int) := by omega
            clear hI3 hS3 hcl
            go_upto_region 17 with fail
            refine wp_region_held_drew (S := fun W' => KeepsS G wc W' ∧ Below w.heap.size w W' ∧ W'.heap[zb]? = some (.cells #[.int .i64 256, .slice az Z.length cz] 52)) (by kernel_rfl) ⟨⟨Nat.le_refl _, fun k _ => rfl⟩, HA.out.bel.trans ((Below.refl _ _).drew.mono HA.out.bel.size), HA.out.zbox⟩ (fun hHeld => ?_)
            obtain ⟨Uk3u0, eW⟩ : ∃ X, X = wc.drew := ⟨_, rfl⟩
            have hb : Below wc.heap.size wc Uk3u0 := by rw [eW]; exact (Below.refl _ _).drew
            replace HA : Hid (AlS w bb F G H Y Z R [] yb zb (.slice ay Y.length cy) (.slice az Z.length cz) (.slice az Z.length cz) (.slice (some ⟨b, o, none⟩) R.length cap) (.slice none 0 0) Uk3u0) := HA.out.below hb
            rw [← eW] at hHeld ⊢
            clear eW hb
            refine tkW 0 (some 69) (v := ?_) ?_ hHeld ?_
            rotate_left
            · (intro w _; go_simp; try with_reducible rfl)
            refine tkW 1 (some 70) (v := ?_) ?_ hHeld ?_
            rotate_left
            · (intro w _; go_simp; try with_reducible rfl)
            refine tkW 2 (some 71) (v := ?_) ?_ hHeld ?_
            rotate_left
            · (intro w hSw; (try dsimp only at hSw); obtain ⟨hk, _, hy⟩ := hSw; obtain ⟨k_0, k_1, k_2, k_3, k_4, k_5, k_6, k_7, k_8, k_9, k_10, k_11, k_12⟩ := HC.out _ hk; obtain ⟨x_0, x_1, _, _⟩ := row2_cells hy; go_simp; try with_reducible rfl)
            refine tkW 4 (some 73) (v := ?_) ?_ hHeld ?_
            rotate_left
            · (intro w _; go_simp; try with_reducible rfl)
            refine tkW 5 (some 74) (v := ?_) ?_ hHeld ?_
            rotate_left
            · (intro w _; go_simp; try with_reducible rfl)
            refine tkW 6 (some 75) (v := ?_) ?_ hHeld ?_
            rotate_left
            · (intro w hSw; (try dsimp only at hSw); obtain ⟨hk, _, hy⟩ := hSw; obtain ⟨k_0, k_1, k_2, k_3, k_4, k_5, k_6, k_7, k_8, k_9, k_10, k_11, k_12⟩ := HC.out _ hk; obtain ⟨x_0, x_1, _, _⟩ := row2_cells hy; go_simp; try with_reducible rfl)
            refine tkW 7 (some 76) (v := ?_) ?_ hHeld ?_
            rotate_left
            · (intro w hSw; (try dsimp only at hSw); obtain ⟨hk, _, hy⟩ := hSw; obtain ⟨k_0, k_1, k_2, k_3, k_4, k_5, k_6, k_7, k_8, k_9, k_10, k_11, k_12⟩ := HC.out _ hk; obtain ⟨x_0, x_1, _, _⟩ := row2_cells hy; go_simp; try with_reducible rfl)
            refine wpAnyH_ready (rs := [3]) (by kernel_rfl) (by simp) ?_
            refine AllReadyH.cons (o := ⟨some 72, _, _, _, _, _⟩) rfl (fun K hK => ?_) AllReadyH.nil
            go_simp
            refine (refClock_any _ Z Uk3u0 HA.out.dz.isH).mono ?_
            rintro e Uk3u1 ⟨v7, rfl, ho7, hb⟩
            (try go_wp2_with fail)
            refine hK.out _ _ (⟨hHeld.1.trans (KeepsS.of_below hb HA.out.dy.1), hHeld.2.1.trans (hb.mono hHeld.2.1.size), (hb.block _ (row_lt hHeld.2.2)).trans hHeld.2.2⟩) (fun hHeld2 => ?_)
            clear hK K hHeld
            have hHeld := hHeld2
            clear hHeld2
            (try simp only [Act.put, List.setIfInBounds_toArray, List.set_cons_zero, List.set_cons_succ])
            replace HA : Hid (AlS w bb F G H Y Z R [] yb zb (.slice ay Y.length cy) (.slice az Z.length cz) (.slice az Z.length cz) (.slice (some ⟨b, o, none⟩) R.length cap) (.slice none 0 0) Uk3u1) := HA.out.below hb
            obtain ⟨a7, c7, e7⟩ := ho7.form
            subst e7
            have HI7 : Hid (IsI Uk3u1 (.slice a7 (clockL Z).length c7) (clockL Z)) := ho7.isI (Nat.le_trans (clockL_length Z) (by decide))
            clear ho7
            clear hb
            refine wpAnyH_ready (rs := [8]) (by kernel_rfl) (by simp) ?_
            refine AllReadyH.cons (o := ⟨some 77, _, _, _, _, _⟩) rfl (fun K hK => ?_) AllReadyH.nil
            have HP0 := HA.out
            go_simp
            refine (take_anyQ F _ 256 H ac ar sq (.slice a3 ds.length c3) kd nc nr pc pr fc fr nm vl ds _ (clockL Z) Uk3u1 HA.out.buf (by have := HHl.out; omega) HI7.out (HIc.out _ hHeld.1) HSz.out).mono ?_
            rintro e Uk3u2 ⟨v5, E5, F5, rfl, hA5, hE5, hL5, hF5, ht5, hN5⟩
            (try go_wp2_with fail)
            have HA5 : Hid (AlS w bb F5 G (takeR 256 H (clockL Z) (⟨ac, ar, sq, ds, kd, nc, nr, pc, pr, fc, fr, nm, vl⟩ : Ch)).1 Y Z R [] yb zb (.slice ay Y.length cy) (.slice az Z.length cz) (.slice az Z.length cz) (.slice (some ⟨b, o, none⟩) R.length cap) (.slice none 0 0) Uk3u2) := HA.out.take hL5 hF5 ht5
            refine hK.out _ _ (⟨hHeld.1.trans (ht5.keeps fun k q => ⟨HP0.dy.1 k q, fun q2 => (HP0.fg k q2).1 q⟩), HA5.out.bel, HA5.out.zbox⟩) (fun hHeld2 => ?_)
            clear hK K hHeld
            have hHeld := hHeld2
            clear hHeld2
            (try simp only [Act.put, List.setIfInBounds_toArray, List.set_cons_zero, List.set_cons_succ])
            obtain ⟨a5, c5, e5⟩ := hA5.own.form
            subst e5
            obtain ⟨N5, hN6, hA6, hFN⟩ : ∃ N, Uk3u1.heap.size ≤ N ∧ (E5 = [] ∨ AccH N (.slice a5 E5.length c5) E5 Uk3u2) ∧ ∀ k, F5 k → E5 = [] ∨ k < N := by
              rcases hN5 with h | ⟨N, h1, h2, h3⟩
              · exact ⟨_, Nat.le_refl _, .inl h, fun k _ => .inl h⟩
              · exact ⟨N, h1, .inr h2, fun k q => .inr (h3 k q)⟩
            have HWs : Hid (Uk3u1.heap.size ≤ N5 ∧ (E5 = [] ∨ AccH N5 (.slice a5 E5.length c5) E5 Uk3u2) ∧ (∀ k, F5 k → E5 = [] ∨ k < N5) ∧ E5.map Prod.fst = (takeR 256 H (clockL Z) (⟨ac, ar, sq, ds, kd, nc, nr, pc, pr, fc, fr, nm, vl⟩ : Ch)).2.1 ∧ yb < Uk3u1.heap.size ∧ zb < Uk3u1.heap.size) := ⟨hN6, hA6, hFN, hE5, row_lt HP0.ybox, row_lt HP0.zbox⟩
            obtain ⟨w5, ew5⟩ : ∃ X, X = Uk3u2 := ⟨_, rfl⟩
            rw [← ew5] at HA5 HWs hHeld ⊢
            clear hA5 hE5 hL5 hF5 ht5 hN5 hN6 hA6 hFN ew5 HA HP0 HI7
            refine tkW 9 (some 68) (v := ?_) ?_ hHeld ?_
            rotate_left
            · (intro w _; go_simp; try with_reducible rfl)
            refine tkW 10 (some 78) (v := ?_) ?_ hHeld ?_
            rotate_left
            · (intro w _; go_simp; try with_reducible rfl)
            refine tkW 11 (some 79) (v := ?_) ?_ hHeld ?_
            rotate_left
            · (intro w _; go_simp; try with_reducible rfl)
            refine tkW 12 (some 13) (v := ?_) ?_ hHeld ?_
            rotate_left
            · (intro w _; go_simp; try with_reducible rfl)
            refine tkW 13 (some 14) (v := ?_) ?_ hHeld ?_
            rotate_left
            · (intro w _; go_simp; try with_reducible rfl)
            refine wpAnyH_done (by kernel_rfl) ?_ _
            clear hHeld
            have HTk : Hid ((takeR 256 H (clockL Z) (⟨ac, ar, sq, ds, kd, nc, nr, pc, pr, fc, fr, nm, vl⟩ : Ch)).2.2 = 0 ∧ AddOk Z (takeR 256 H (clockL Z) (⟨ac, ar, sq, ds, kd, nc, nr, pc, pr, fc, fr, nm, vl⟩ : Ch)).2.1 ∧ HoP Y (addsL Z (takeR 256 H (clockL Z) (⟨ac, ar, sq, ds, kd, nc, nr, pc, pr, fc, fr, nm, vl⟩ : Ch)).2.1) (takeR 256 H (clockL Z) (⟨ac, ar, sq, ds, kd, nc, nr, pc, pr, fc, fr, nm, vl⟩ : Ch)).1 (R.eraseIdx i)) := by have := HP.out.take HGd.out (by omega) HBo.out.1 HBo.out.2 hi; rw [← HX0.out] at this; exact this
            have HZY : Hid (∀ x ∈ addsL Z (takeR 256 H (clockL Z) (⟨ac, ar, sq, ds, kd, nc, nr, pc, pr, fc, fr, nm, vl⟩ : Ch)).2.1, x ∈ Y) := fun x q => (HTk.out.2.2.mem x).2 (.inl q)
            have HHn : Hid ((takeR 256 H (clockL Z) (⟨ac, ar, sq, ds, kd, nc, nr, pc, pr, fc, fr, nm, vl⟩ : Ch)).1.length ≤ 256) := by have := takeR_len (room := 256) (H := H) (kn := clockL Z) (c := (⟨ac, ar, sq, ds, kd, nc, nr, pc, pr, fc, fr, nm, vl⟩ : Ch)) (by have := HHl.out; omega); show _ ≤ _; omega
            generalize (takeR 256 H (clockL Z) (⟨ac, ar, sq, ds, kd, nc, nr, pc, pr, fc, fr, nm, vl⟩ : Ch)) = R5 at *
            obtain ⟨H5, O5, f5⟩ := R5
            simp only at HA5 HWs HTk HZY HHn HOl ⊢
            obtain rfl : f5 = 0 := HTk.out.1
            have hEl : E5.length = O5.length := by have := congrArg List.length HWs.out.2.2.2.1; rw [List.length_map] at this; exact this
            have HA6 : Hid (AlS w bb F5 (fun k => G k ∨ (N5 ≤ k ∧ k < w5.heap.size ∧ ¬ F5 k)) H5 Y Z R O5 yb zb (.slice ay Y.length cy) (.slice az Z.length cz) (.slice az Z.length cz) (.slice (some ⟨b, o, none⟩) R.length cap) (.slice a5 E5.length c5) w5) := by
              obtain ⟨q1, q2, q3, q4, q5, q6⟩ := HWs.out
              have hg := HA5.out.grow (G' := (fun k => G k ∨ (N5 ≤ k ∧ k < w5.heap.size ∧ ¬ F5 k))) (fun k q => .inl q) (fun k q => q.imp id (fun q => ⟨q.2.2, by omega, by omega⟩)) (fun k q => q.elim (fun q => HA5.out.dy.1 k q) (fun q => q.2.1))
              refine hg.gTo ?_
              rcases q2 with rfl | q2
              · obtain rfl : O5 = [] := by rw [← q4]; rfl
                exact ⟨hg.dy.1, a5, c5, rfl, Nat.zero_le _, by simp, .inl rfl⟩
              · by_cases hE0 : E5 = []
                · subst hE0
                  obtain rfl : O5 = [] := by rw [← q4]; rfl
                  exact ⟨hg.dy.1, a5, c5, rfl, Nat.zero_le _, by simp, .inl rfl⟩
                · have hlt : ∀ k, N5 ≤ k → k < w5.heap.size → (fun k => G k ∨ (N5 ≤ k ∧ k < w5.heap.size ∧ ¬ F5 k)) k := fun k h1 h2 => .inr ⟨h1, h2, fun q => (q3 k q).elim hE0 (fun q => by omega)⟩
                  have hf := HFirm.ofOwn (G := (fun k => G k ∨ (N5 ≤ k ∧ k < w5.heap.size ∧ ¬ F5 k))) (G2 := (fun k => G k ∨ (N5 ≤ k ∧ k < w5.heap.size ∧ ¬ F5 k))) q2.own (by have := HOl.out; rw [hEl]; omega) (fun x hx => ⟨IsG.own (q2.dep x hx).1 (q2.dep x hx).2.2 hlt, (q2.dep x hx).2.1⟩) (fun k q => q) hlt hg.dy.1
                  rw [q4] at hf
                  exact hf
            rw [hEl] at HA6 ⊢
            obtain ⟨G6, eG6⟩ : ∃ X : Nat → Prop, X = (fun k => G k ∨ (N5 ≤ k ∧ k < w5.heap.size ∧ ¬ F5 k)) := ⟨_, rfl⟩
            rw [← eG6] at HA6
            clear eG6 HA5 HWs hEl
            have hO5l : O5.length ≤ 4096 := HOl.out
            go_wp2
            go_loopw [15] (fun iv wq => ∃ (j : Nat) (Z1 : List Ch) (G : Nat → Prop) (zv : Value), j ≤ O5.length ∧ iv = .int .i64 (j : Int) ∧ Hid (AlS w bb F5 G H5 Y Z1 R O5 yb zb (.slice ay Y.length cy) zv zv (.slice (some ⟨b, o, none⟩) R.length cap) (.slice a5 O5.length c5) wq) ∧ Hid (AddOk Z1 (O5.drop j) ∧ addsL Z1 (O5.drop j) = addsL Z O5)) (fun iv _ => O5.length - (intOf iv).toNat)
            case atStart => exact ⟨0, Z, G6, _, Nat.zero_le _, rfl, HA6, ⟨HTk.out.2.1, rfl⟩⟩
            case round =>
              rename World => wq
              obtain ⟨j, Z1, G, zv, hj, rfl, HA, HAd⟩ := hrel
              clear HA6
              obtain ⟨az, cz, ez⟩ := HA.out.dz.isH.form
              subst ez
              by_cases hj2 : j < O5.length
              · obtain ⟨_, _, e, _, hone⟩ := HA.out.got.one
                simp only [Value.slice.injEq] at e
                obtain ⟨e1, _, e3⟩ := e
                subst e1 e3
                obtain ⟨gb, go, a3, c3, eb, hI3, hS3, hcl⟩ := hone j hj2
                subst eb
                have hdr : O5.drop j = O5[j] :: O5.drop (j + 1) := List.drop_eq_getElem_cons hj2
                have hAd := HAd.out
                rw [hdr] at hAd
                generalize O5[j] = x at *
                have HWy : Hid (whyR Z1 256 x = 0) := hAd.1.1
                have HSt : Hid (AddOk (addL Z1 256 x) (O5.drop (j + 1)) ∧ addsL (addL Z1 256 x) (O5.drop (j + 1)) = addsL Z O5) := ⟨hAd.1.2, hAd.2⟩
                have HZl : Hid (Z1.length ≤ 4096) := by show _ ≤ _; have := (why_ok hAd.1.1).2.2.2.2.2; omega
                clear hone hdr hAd HAd
                obtain ⟨ac, ar, sq, ds, kd, nc, nr, pc, pr, fc, fr, nm, vl⟩ := x
                simp only at hI3 hcl
                have HC : Hid (∀ W', KeepsS G wq W' → W'.cell? ⟨gb, go + j * 13, none⟩ = some (.int .i64 ac) ∧ W'.cell? ⟨gb, go + j * 13 + 1, none⟩ = some (.int .i64 ar) ∧ W'.cell? ⟨gb, go + j * 13 + 2, none⟩ = some (.int .i64 sq) ∧ W'.cell? ⟨gb, go + j * 13 + 3, none⟩ = some (.slice a3 ds.length c3) ∧ W'.cell? ⟨gb, go + j * 13 + 4, none⟩ = some (.int .i64 kd) ∧ W'.cell? ⟨gb, go + j * 13 + 5, none⟩ = some (.int .i64 nc) ∧ W'.cell? ⟨gb, go + j * 13 + 6, none⟩ = some (.int .i64 nr) ∧ W'.cell? ⟨gb, go + j * 13 + 7, none⟩ = some (.int .i64 pc) ∧ W'.cell? ⟨gb, go + j * 13 + 8, none⟩ = some (.int .i64 pr) ∧ W'.cell? ⟨gb, go + j * 13 + 9, none⟩ = some (.int .i64 fc) ∧ W'.cell? ⟨gb, go + j * 13 + 10, none⟩ = some (.int .i64 fr) ∧ W'.cell? ⟨gb, go + j * 13 + 11, none⟩ = some (.string nm) ∧ W'.cell? ⟨gb, go + j * 13 + 12, none⟩ = some (.string vl)) := fun W' hk => chAll (hcl W' hk)
                have HIc : Hid (∀ W', KeepsS G wq W' → IsI W' (.slice a3 ds.length c3) ds) := fun W' hk => (hI3.keep hk).isI
                have HSz : Hid (Sized (⟨ac, ar, sq, ds, kd, nc, nr, pc, pr, fc, fr, nm, vl⟩ : Ch)) := hS3
                have j1 : (j : Int) < (O5.length : Int) := by omega
                have j0 : (0 : Int) ≤ (j : Int) := by omega
                clear hI3 hS3 hcl
                go_upto_region 23 with fail
                refine wp_region_held_drew (S := fun W' => KeepsS G wq W' ∧ Below w.heap.size w W' ∧ W'.heap[zb]? = some (.cells #[.int .i64 256, .slice az Z1.length cz] 52)) (by kernel_rfl) ⟨⟨Nat.le_refl _, fun k _ => rfl⟩, HA.out.bel.trans ((Below.refl _ _).drew.mono HA.out.bel.size), HA.out.zbox⟩ (fun hHeld => ?_)
                obtain ⟨Uh2u0, eW⟩ : ∃ X, X = wq.drew := ⟨_, rfl⟩
                have hb : Below wq.heap.size wq Uh2u0 := by rw [eW]; exact (Below.refl _ _).drew
                replace HA : Hid (AlS w bb F5 G H5 Y Z1 R O5 yb zb (.slice ay Y.length cy) (.slice az Z1.length cz) (.slice az Z1.length cz) (.slice (some ⟨b, o, none⟩) R.length cap) (.slice (some ⟨gb, go, none⟩) O5.length c5) Uh2u0) := HA.out.below hb
                rw [← eW] at hHeld ⊢
                clear eW hb
                refine tkW 0 (some 89) (v := ?_) ?_ hHeld ?_
                rotate_left
                · (intro w hSw; (try dsimp only at hSw); obtain ⟨hk, _, hy⟩ := hSw; obtain ⟨k_0, k_1, k_2, k_3, k_4, k_5, k_6, k_7, k_8, k_9, k_10, k_11, k_12⟩ := HC.out _ hk; obtain ⟨x_0, x_1, _, _⟩ := row2_cells hy; go_simp; try with_reducible rfl)
                refine tkW 1 (some 90) (v := ?_) ?_ hHeld ?_
                rotate_left
                · (intro w _; go_simp; try with_reducible rfl)
                refine tkW 2 (some 91) (v := ?_) ?_ hHeld ?_
                rotate_left
                · (intro w _; go_simp; try with_reducible rfl)
                refine tkW 3 (some 92) (v := ?_) ?_ hHeld ?_
                rotate_left
                · (intro w hSw; (try dsimp only at hSw); obtain ⟨hk, _, hy⟩ := hSw; obtain ⟨k_0, k_1, k_2, k_3, k_4, k_5, k_6, k_7, k_8, k_9, k_10, k_11, k_12⟩ := HC.out _ hk; obtain ⟨x_0, x_1, _, _⟩ := row2_cells hy; go_simp; try with_reducible rfl)
                refine tkW 4 (some 93) (v := ?_) ?_ hHeld ?_
                rotate_left
                · (intro w hSw; (try dsimp only at hSw); obtain ⟨hk, _, hy⟩ := hSw; obtain ⟨k_0, k_1, k_2, k_3, k_4, k_5, k_6, k_7, k_8, k_9, k_10, k_11, k_12⟩ := HC.out _ hk; obtain ⟨x_0, x_1, _, _⟩ := row2_cells hy; go_simp; try with_reducible rfl)
                refine wpAnyH_ready (rs := [5, 9]) (by kernel_rfl) (by simp) ?_
                refine AllReadyH.cons (o := ⟨some 94, _, _, _, _, _⟩) rfl (fun K hK => ?_) (AllReadyH.cons (o := ⟨some 16, _, _, _, _, _⟩) rfl (fun K hK => ?_) AllReadyH.nil)
                · have HN6 : Hid (AlS w bb F5 G H5 Y Z1 R O5 yb zb (.slice ay Y.length cy) (.slice az Z1.length cz) (.slice az Z1.length cz) (.slice (some ⟨b, o, none⟩) R.length cap) (.slice (some ⟨gb, go, none⟩) O5.length c5) Uh2u0) := HA.out
                  go_simp
                  refine (refAdd_any G _ Z1 256 ac ar sq (.slice a3 ds.length c3) kd nc nr pc pr fc fr nm vl ds Uh2u0 HA.out.dz (HIc.out _ hHeld.1) HSz.out (by have := HZl.out; omega)).mono ?_
                  rintro e Uh2u1 ⟨v6, rfl, hf6, hb⟩
                  (try go_wp2_with fail)
                  refine hK.out _ _ (⟨hHeld.1.trans (KeepsS.of_below hb HN6.out.dy.1), hHeld.2.1.trans (hb.mono hHeld.2.1.size), (hb.block _ (row_lt hHeld.2.2)).trans hHeld.2.2⟩) (fun hHeld2 => ?_)
                  clear hK K hHeld
                  have hHeld := hHeld2
                  clear hHeld2
                  (try simp only [Act.put, List.setIfInBounds_toArray, List.set_cons_zero, List.set_cons_succ])
                  replace HA : Hid (AlS w bb F5 G H5 Y Z1 R O5 yb zb (.slice ay Y.length cy) (.slice az Z1.length cz) (.slice az Z1.length cz) (.slice (some ⟨b, o, none⟩) R.length cap) (.slice (some ⟨gb, go, none⟩) O5.length c5) Uh2u1) := HA.out.below hb
                  obtain ⟨a6, c6, e6⟩ := hf6.isH.form
                  subst e6
                  obtain ⟨G2, eG2⟩ : ∃ G2 : Nat → Prop, G2 = fun k => G k ∨ (Uh2u0.heap.size ≤ k ∧ k < Uh2u1.heap.size) := ⟨_, rfl⟩
                  have HF6 : Hid (AlS w bb F5 G2 H5 Y (addL Z1 256 (⟨ac, ar, sq, ds, kd, nc, nr, pc, pr, fc, fr, nm, vl⟩ : Ch)) R O5 yb zb (.slice ay Y.length cy) (.slice a6 (addL Z1 256 (⟨ac, ar, sq, ds, kd, nc, nr, pc, pr, fc, fr, nm, vl⟩ : Ch)).length c6) (.slice az Z1.length cz) (.slice (some ⟨b, o, none⟩) R.length cap) (.slice (some ⟨gb, go, none⟩) O5.length c5) Uh2u1) := by rw [eG2]; exact (HN6.out.growB hb).zTo hf6
                  have HG2s : Hid (∀ k, G k → G2 k) := fun k q => by rw [eG2]; exact .inl q
                  clear hf6 eG2 HN6
                  clear hb
                  refine tkW 6 (some 88) (v := ?_) ?_ hHeld ?_
                  rotate_left
                  · (intro w _; go_simp; try with_reducible rfl)
                  refine tkW 7 (some 95) (v := ?_) ?_ hHeld ?_
                  rotate_left
                  · (intro w _; go_simp; try with_reducible rfl)
                  refine tkW 8 (some 96) (v := ?_) ?_ hHeld ?_
                  rotate_left
                  · (intro w _; go_simp; try with_reducible rfl)
                  refine wpAnyH_ready (rs := [9]) (by kernel_rfl) (by simp) ?_
                  refine AllReadyH.cons (o := ⟨some 16, _, _, _, _, _⟩) rfl (fun K hK => ?_) AllReadyH.nil
                  have HX0 : Hid (¬ (F5 Uh2u1.heap.size ∨ G2 Uh2u1.heap.size ∨ Uh2u1.heap.size = yb ∨ Uh2u1.heap.size = zb) ∧ w.heap.size ≤ Uh2u1.heap.size) := HF6.out.fresh
                  have HN7 := HA.out.dy.1
                  go_simp
                  refine hK.out _ _ (⟨hHeld.1.trans (KeepsS.of_below ((Below.refl _ _).alloc (Nat.le_refl _) _) HN7), hHeld.2.1.trans (((Below.refl _ _).alloc (Nat.le_refl _) _).mono hHeld.2.1.size), (((Below.refl _ _).alloc (Nat.le_refl _) _).block _ (row_lt hHeld.2.2)).trans hHeld.2.2⟩) (fun hHeld2 => ?_)
                  clear hK K hHeld
                  have hHeld := hHeld2
                  clear hHeld2
                  (try simp only [Act.put, List.setIfInBounds_toArray, List.set_cons_zero, List.set_cons_succ])
                  obtain ⟨Uh2u2, eW⟩ : ∃ X, X = Uh2u1.alloc (.cells #[.int .i64 0, .slice none 0 0] 52) := ⟨_, rfl⟩
                  have hb : Below Uh2u1.heap.size Uh2u1 Uh2u2 := by rw [eW]; exact (Below.refl _ _).alloc (Nat.le_refl _) _
                  replace HA : Hid (AlS w bb F5 G H5 Y Z1 R O5 yb zb (.slice ay Y.length cy) (.slice az Z1.length cz) (.slice az Z1.length cz) (.slice (some ⟨b, o, none⟩) R.length cap) (.slice (some ⟨gb, go, none⟩) O5.length c5) Uh2u2) := HA.out.below hb
                  replace HF6 : Hid (AlS w bb F5 G2 H5 Y (addL Z1 256 (⟨ac, ar, sq, ds, kd, nc, nr, pc, pr, fc, fr, nm, vl⟩ : Ch)) R O5 yb zb (.slice ay Y.length cy) (.slice a6 (addL Z1 256 (⟨ac, ar, sq, ds, kd, nc, nr, pc, pr, fc, fr, nm, vl⟩ : Ch)).length c6) (.slice az Z1.length cz) (.slice (some ⟨b, o, none⟩) R.length cap) (.slice (some ⟨gb, go, none⟩) O5.length c5) Uh2u2) := HF6.out.below hb
                  obtain ⟨xb, exb⟩ : ∃ b, b = Uh2u1.heap.size := ⟨_, rfl⟩
                  rw [← eW] at hHeld ⊢
                  (try rw [← exb])
                  have HX : Hid (BxL xb Uh2u2) := by rw [exb, eW]; exact heap_alloc_new _ _
                  have HXn : Hid (¬ (F5 xb ∨ G2 xb ∨ xb = yb ∨ xb = zb) ∧ w.heap.size ≤ xb) := by rw [exb]; exact HX0.out
                  have HX6 : Hid (¬ G2 xb) := fun q => HXn.out.1 (.inr (.inl q))
                  clear eW
                  clear HN7
                  clear exb
                  clear hb
                  refine wpAnyH_ready (rs := [10]) (by kernel_rfl) (by simp) ?_
                  refine AllReadyH.cons (o := ⟨none, _, _, _, _, _⟩) rfl (fun K hK => ?_) AllReadyH.nil
                  obtain ⟨r_0, r_1, r_2, r_3⟩ := row2_cells HX.out
                  have HXg : Hid (¬ G xb) := fun q => HX6.out (HG2s.out xb q)
                  go_simp
                  refine hK.out _ _ (⟨hHeld.1.trans ⟨by simp [World.setCell], fun k hk => (RowKit.Below.heap_setCell _ _ _ _ (fun (e : k = xb) => HXg.out (e ▸ hk))).trans (RowKit.Below.heap_setCell _ _ _ _ (fun (e : k = xb) => HXg.out (e ▸ hk)))⟩, ((HF6.out.far (i := 0) (v := .int .i64 256) ⟨fun q => by rcases q with q | q | q | q; exact HXn.out.1 (.inl q); exact HX6.out q; exact HXn.out.1 (.inr (.inr (.inl q))); exact HXn.out.1 (.inr (.inr (.inr q))), HXn.out.2⟩).far (i := 1) (v := (.slice a6 (addL Z1 256 (⟨ac, ar, sq, ds, kd, nc, nr, pc, pr, fc, fr, nm, vl⟩ : Ch)).length c6)) ⟨fun q => by rcases q with q | q | q | q; exact HXn.out.1 (.inl q); exact HX6.out q; exact HXn.out.1 (.inr (.inr (.inl q))); exact HXn.out.1 (.inr (.inr (.inr q))), HXn.out.2⟩).bel, ((HF6.out.far (i := 0) (v := .int .i64 256) ⟨fun q => by rcases q with q | q | q | q; exact HXn.out.1 (.inl q); exact HX6.out q; exact HXn.out.1 (.inr (.inr (.inl q))); exact HXn.out.1 (.inr (.inr (.inr q))), HXn.out.2⟩).far (i := 1) (v := (.slice a6 (addL Z1 256 (⟨ac, ar, sq, ds, kd, nc, nr, pc, pr, fc, fr, nm, vl⟩ : Ch)).length c6)) ⟨fun q => by rcases q with q | q | q | q; exact HXn.out.1 (.inl q); exact HX6.out q; exact HXn.out.1 (.inr (.inr (.inl q))); exact HXn.out.1 (.inr (.inr (.inr q))), HXn.out.2⟩).zbox⟩) (fun hHeld2 => ?_)
                  clear hK K hHeld
                  have hHeld := hHeld2
                  clear hHeld2
                  (try simp only [Act.put, List.setIfInBounds_toArray, List.set_cons_zero, List.set_cons_succ])
                  have HA9 : Hid (AlS w bb F5 G2 H5 Y (addL Z1 256 (⟨ac, ar, sq, ds, kd, nc, nr, pc, pr, fc, fr, nm, vl⟩ : Ch)) R O5 yb zb (.slice ay Y.length cy) (.slice a6 (addL Z1 256 (⟨ac, ar, sq, ds, kd, nc, nr, pc, pr, fc, fr, nm, vl⟩ : Ch)).length c6) (.slice az Z1.length cz) (.slice (some ⟨b, o, none⟩) R.length cap) (.slice (some ⟨gb, go, none⟩) O5.length c5) ((Uh2u2.setCell ⟨xb, 0, none⟩ (.int .i64 256)).setCell ⟨xb, 1, none⟩ (.slice a6 (addL Z1 256 (⟨ac, ar, sq, ds, kd, nc, nr, pc, pr, fc, fr, nm, vl⟩ : Ch)).length c6))) := (HF6.out.far (i := 0) (v := .int .i64 256) ⟨fun q => by rcases q with q | q | q | q; exact HXn.out.1 (.inl q); exact HX6.out q; exact HXn.out.1 (.inr (.inr (.inl q))); exact HXn.out.1 (.inr (.inr (.inr q))), HXn.out.2⟩).far (i := 1) (v := (.slice a6 (addL Z1 256 (⟨ac, ar, sq, ds, kd, nc, nr, pc, pr, fc, fr, nm, vl⟩ : Ch)).length c6)) ⟨fun q => by rcases q with q | q | q | q; exact HXn.out.1 (.inl q); exact HX6.out q; exact HXn.out.1 (.inr (.inr (.inl q))); exact HXn.out.1 (.inr (.inr (.inr q))), HXn.out.2⟩
                  have HX9 : Hid (((Uh2u2.setCell ⟨xb, 0, none⟩ (.int .i64 256)).setCell ⟨xb, 1, none⟩ (.slice a6 (addL Z1 256 (⟨ac, ar, sq, ds, kd, nc, nr, pc, pr, fc, fr, nm, vl⟩ : Ch)).length c6)).heap[xb]? = some (.cells #[.int .i64 256, (.slice a6 (addL Z1 256 (⟨ac, ar, sq, ds, kd, nc, nr, pc, pr, fc, fr, nm, vl⟩ : Ch)).length c6)] 52)) := row_set2 HX.out
                  obtain ⟨W9, eW9⟩ : ∃ X, X = ((Uh2u2.setCell ⟨xb, 0, none⟩ (.int .i64 256)).setCell ⟨xb, 1, none⟩ (.slice a6 (addL Z1 256 (⟨ac, ar, sq, ds, kd, nc, nr, pc, pr, fc, fr, nm, vl⟩ : Ch)).length c6)) := ⟨_, rfl⟩
                  rw [← eW9] at HA9 HX9 hHeld ⊢
                  clear eW9 r_0 r_1 r_2 r_3 HF6 HX HA HX6 HXn HXg
                  refine tkW 11 (some 17) (v := ?_) ?_ hHeld ?_
                  rotate_left
                  · (intro w _; go_simp; try with_reducible rfl)
                  refine wpAnyH_done (by kernel_rfl) ?_ _
                  clear hHeld
                  obtain ⟨z_0, z_1, _, _⟩ := row2_cells HX9.out
                  obtain ⟨y_0, y_1, y_2, y_3⟩ := row2_cells HA9.out.zbox
                  have HAz : Hid (AlS w bb F5 G2 H5 Y (addL Z1 256 (⟨ac, ar, sq, ds, kd, nc, nr, pc, pr, fc, fr, nm, vl⟩ : Ch)) R O5 yb zb (.slice ay Y.length cy) (.slice a6 (addL Z1 256 (⟨ac, ar, sq, ds, kd, nc, nr, pc, pr, fc, fr, nm, vl⟩ : Ch)).length c6) (.slice a6 (addL Z1 256 (⟨ac, ar, sq, ds, kd, nc, nr, pc, pr, fc, fr, nm, vl⟩ : Ch)).length c6) (.slice (some ⟨b, o, none⟩) R.length cap) (.slice (some ⟨gb, go, none⟩) O5.length c5) ((W9.setCell ⟨zb, 0, none⟩ (.int .i64 256)).setCell ⟨zb, 1, none⟩ (.slice a6 (addL Z1 256 (⟨ac, ar, sq, ds, kd, nc, nr, pc, pr, fc, fr, nm, vl⟩ : Ch)).length c6))) := HA9.out.put
                  rw [HWy.out]
                  clear HA9 HX9
                  obtain ⟨Z9, eZ9⟩ : ∃ X, X = (addL Z1 256 (⟨ac, ar, sq, ds, kd, nc, nr, pc, pr, fc, fr, nm, vl⟩ : Ch)) := ⟨_, rfl⟩
                  rw [← eZ9] at HAz HSt z_1 ⊢
                  clear eZ9
                  go_wp2
                  go_roundw
                  case rel => exact ⟨j + 1, Z9, G2, _, by omega, by go_num, HAz, HSt⟩
                  case measure => simp [intOf]; omega
                · have HX0 : Hid (¬ (F5 Uh2u0.heap.size ∨ G Uh2u0.heap.size ∨ Uh2u0.heap.size = yb ∨ Uh2u0.heap.size = zb) ∧ w.heap.size ≤ Uh2u0.heap.size) := HA.out.fresh
                  have HN7 := HA.out.dy.1
                  go_simp
                  refine hK.out _ _ (⟨hHeld.1.trans (KeepsS.of_below ((Below.refl _ _).alloc (Nat.le_refl _) _) HN7), hHeld.2.1.trans (((Below.refl _ _).alloc (Nat.le_refl _) _).mono hHeld.2.1.size), (((Below.refl _ _).alloc (Nat.le_refl _) _).block _ (row_lt hHeld.2.2)).trans hHeld.2.2⟩) (fun hHeld2 => ?_)
                  clear hK K hHeld
                  have hHeld := hHeld2
                  clear hHeld2
                  (try simp only [Act.put, List.setIfInBounds_toArray, List.set_cons_zero, List.set_cons_succ])
                  obtain ⟨Uh2u4, eW⟩ : ∃ X, X = Uh2u0.alloc (.cells #[.int .i64 0, .slice none 0 0] 52) := ⟨_, rfl⟩
                  have hb : Below Uh2u0.heap.size Uh2u0 Uh2u4 := by rw [eW]; exact (Below.refl _ _).alloc (Nat.le_refl _) _
                  replace HA : Hid (AlS w bb F5 G H5 Y Z1 R O5 yb zb (.slice ay Y.length cy) (.slice az Z1.length cz) (.slice az Z1.length cz) (.slice (some ⟨b, o, none⟩) R.length cap) (.slice (some ⟨gb, go, none⟩) O5.length c5) Uh2u4) := HA.out.below hb
                  obtain ⟨xb, exb⟩ : ∃ b, b = Uh2u0.heap.size := ⟨_, rfl⟩
                  rw [← eW] at hHeld ⊢
                  (try rw [← exb])
                  have HX : Hid (BxL xb Uh2u4) := by rw [exb, eW]; exact heap_alloc_new _ _
                  have HXn : Hid (¬ (F5 xb ∨ G xb ∨ xb = yb ∨ xb = zb) ∧ w.heap.size ≤ xb) := by rw [exb]; exact HX0.out
                  clear eW
                  clear HN7
                  clear exb
                  clear hb
                  refine wpAnyH_ready (rs := [5]) (by kernel_rfl) (by simp) ?_
                  refine AllReadyH.cons (o := ⟨some 94, _, _, _, _, _⟩) rfl (fun K hK => ?_) AllReadyH.nil
                  have HXl : Hid (xb < Uh2u4.heap.size) := row_lt HX.out
                  have HN6 : Hid (AlS w bb F5 G H5 Y Z1 R O5 yb zb (.slice ay Y.length cy) (.slice az Z1.length cz) (.slice az Z1.length cz) (.slice (some ⟨b, o, none⟩) R.length cap) (.slice (some ⟨gb, go, none⟩) O5.length c5) Uh2u4) := HA.out
                  go_simp
                  refine (refAdd_any G _ Z1 256 ac ar sq (.slice a3 ds.length c3) kd nc nr pc pr fc fr nm vl ds Uh2u4 HA.out.dz (HIc.out _ hHeld.1) HSz.out (by have := HZl.out; omega)).mono ?_
                  rintro e Uh2u5 ⟨v6, rfl, hf6, hb⟩
                  (try go_wp2_with fail)
                  refine hK.out _ _ (⟨hHeld.1.trans (KeepsS.of_below hb HN6.out.dy.1), hHeld.2.1.trans (hb.mono hHeld.2.1.size), (hb.block _ (row_lt hHeld.2.2)).trans hHeld.2.2⟩) (fun hHeld2 => ?_)
                  clear hK K hHeld
                  have hHeld := hHeld2
                  clear hHeld2
                  (try simp only [Act.put, List.setIfInBounds_toArray, List.set_cons_zero, List.set_cons_succ])
                  replace HA : Hid (AlS w bb F5 G H5 Y Z1 R O5 yb zb (.slice ay Y.length cy) (.slice az Z1.length cz) (.slice az Z1.length cz) (.slice (some ⟨b, o, none⟩) R.length cap) (.slice (some ⟨gb, go, none⟩) O5.length c5) Uh2u5) := HA.out.below hb
                  replace HX : Hid (BxL xb Uh2u5) := HX.out.below hb
                  obtain ⟨a6, c6, e6⟩ := hf6.isH.form
                  subst e6
                  obtain ⟨G2, eG2⟩ : ∃ G2 : Nat → Prop, G2 = fun k => G k ∨ (Uh2u4.heap.size ≤ k ∧ k < Uh2u5.heap.size) := ⟨_, rfl⟩
                  have HF6 : Hid (AlS w bb F5 G2 H5 Y (addL Z1 256 (⟨ac, ar, sq, ds, kd, nc, nr, pc, pr, fc, fr, nm, vl⟩ : Ch)) R O5 yb zb (.slice ay Y.length cy) (.slice a6 (addL Z1 256 (⟨ac, ar, sq, ds, kd, nc, nr, pc, pr, fc, fr, nm, vl⟩ : Ch)).length c6) (.slice az Z1.length cz) (.slice (some ⟨b, o, none⟩) R.length cap) (.slice (some ⟨gb, go, none⟩) O5.length c5) Uh2u5) := by rw [eG2]; exact (HN6.out.growB hb).zTo hf6
                  have HX6 : Hid (¬ G2 xb) := fun hk => by rw [eG2] at hk; rcases hk with q | q; exact HXn.out.1 (.inr (.inl q)); have := HXl.out; omega
                  have HG2s : Hid (∀ k, G k → G2 k) := fun k q => by rw [eG2]; exact .inl q
                  clear hf6 eG2 HN6
                  clear hb
                  refine tkW 6 (some 88) (v := ?_) ?_ hHeld ?_
                  rotate_left
                  · (intro w _; go_simp; try with_reducible rfl)
                  refine tkW 7 (some 95) (v := ?_) ?_ hHeld ?_
                  rotate_left
                  · (intro w _; go_simp; try with_reducible rfl)
                  refine tkW 8 (some 96) (v := ?_) ?_ hHeld ?_
                  rotate_left
                  · (intro w _; go_simp; try with_reducible rfl)
                  refine wpAnyH_ready (rs := [10]) (by kernel_rfl) (by simp) ?_
                  refine AllReadyH.cons (o := ⟨none, _, _, _, _, _⟩) rfl (fun K hK => ?_) AllReadyH.nil
                  obtain ⟨r_0, r_1, r_2, r_3⟩ := row2_cells HX.out
                  have HXg : Hid (¬ G xb) := fun q => HX6.out (HG2s.out xb q)
                  go_simp
                  refine hK.out _ _ (⟨hHeld.1.trans ⟨by simp [World.setCell], fun k hk => (RowKit.Below.heap_setCell _ _ _ _ (fun (e : k = xb) => HXg.out (e ▸ hk))).trans (RowKit.Below.heap_setCell _ _ _ _ (fun (e : k = xb) => HXg.out (e ▸ hk)))⟩, ((HF6.out.far (i := 0) (v := .int .i64 256) ⟨fun q => by rcases q with q | q | q | q; exact HXn.out.1 (.inl q); exact HX6.out q; exact HXn.out.1 (.inr (.inr (.inl q))); exact HXn.out.1 (.inr (.inr (.inr q))), HXn.out.2⟩).far (i := 1) (v := (.slice a6 (addL Z1 256 (⟨ac, ar, sq, ds, kd, nc, nr, pc, pr, fc, fr, nm, vl⟩ : Ch)).length c6)) ⟨fun q => by rcases q with q | q | q | q; exact HXn.out.1 (.inl q); exact HX6.out q; exact HXn.out.1 (.inr (.inr (.inl q))); exact HXn.out.1 (.inr (.inr (.inr q))), HXn.out.2⟩).bel, ((HF6.out.far (i := 0) (v := .int .i64 256) ⟨fun q => by rcases q with q | q | q | q; exact HXn.out.1 (.inl q); exact HX6.out q; exact HXn.out.1 (.inr (.inr (.inl q))); exact HXn.out.1 (.inr (.inr (.inr q))), HXn.out.2⟩).far (i := 1) (v := (.slice a6 (addL Z1 256 (⟨ac, ar, sq, ds, kd, nc, nr, pc, pr, fc, fr, nm, vl⟩ : Ch)).length c6)) ⟨fun q => by rcases q with q | q | q | q; exact HXn.out.1 (.inl q); exact HX6.out q; exact HXn.out.1 (.inr (.inr (.inl q))); exact HXn.out.1 (.inr (.inr (.inr q))), HXn.out.2⟩).zbox⟩) (fun hHeld2 => ?_)
                  clear hK K hHeld
                  have hHeld := hHeld2
                  clear hHeld2
                  (try simp only [Act.put, List.setIfInBounds_toArray, List.set_cons_zero, List.set_cons_succ])
                  have HA9 : Hid (AlS w bb F5 G2 H5 Y (addL Z1 256 (⟨ac, ar, sq, ds, kd, nc, nr, pc, pr, fc, fr, nm, vl⟩ : Ch)) R O5 yb zb (.slice ay Y.length cy) (.slice a6 (addL Z1 256 (⟨ac, ar, sq, ds, kd, nc, nr, pc, pr, fc, fr, nm, vl⟩ : Ch)).length c6) (.slice az Z1.length cz) (.slice (some ⟨b, o, none⟩) R.length cap) (.slice (some ⟨gb, go, none⟩) O5.length c5) ((Uh2u5.setCell ⟨xb, 0, none⟩ (.int .i64 256)).setCell ⟨xb, 1, none⟩ (.slice a6 (addL Z1 256 (⟨ac, ar, sq, ds, kd, nc, nr, pc, pr, fc, fr, nm, vl⟩ : Ch)).length c6))) := (HF6.out.far (i := 0) (v := .int .i64 256) ⟨fun q => by rcases q with q | q | q | q; exact HXn.out.1 (.inl q); exact HX6.out q; exact HXn.out.1 (.inr (.inr (.inl q))); exact HXn.out.1 (.inr (.inr (.inr q))), HXn.out.2⟩).far (i := 1) (v := (.slice a6 (addL Z1 256 (⟨ac, ar, sq, ds, kd, nc, nr, pc, pr, fc, fr, nm, vl⟩ : Ch)).length c6)) ⟨fun q => by rcases q with q | q | q | q; exact HXn.out.1 (.inl q); exact HX6.out q; exact HXn.out.1 (.inr (.inr (.inl q))); exact HXn.out.1 (.inr (.inr (.inr q))), HXn.out.2⟩
                  have HX9 : Hid (((Uh2u5.setCell ⟨xb, 0, none⟩ (.int .i64 256)).setCell ⟨xb, 1, none⟩ (.slice a6 (addL Z1 256 (⟨ac, ar, sq, ds, kd, nc, nr, pc, pr, fc, fr, nm, vl⟩ : Ch)).length c6)).heap[xb]? = some (.cells #[.int .i64 256, (.slice a6 (addL Z1 256 (⟨ac, ar, sq, ds, kd, nc, nr, pc, pr, fc, fr, nm, vl⟩ : Ch)).length c6)] 52)) := row_set2 HX.out
                  obtain ⟨W9, eW9⟩ : ∃ X, X = ((Uh2u5.setCell ⟨xb, 0, none⟩ (.int .i64 256)).setCell ⟨xb, 1, none⟩ (.slice a6 (addL Z1 256 (⟨ac, ar, sq, ds, kd, nc, nr, pc, pr, fc, fr, nm, vl⟩ : Ch)).length c6)) := ⟨_, rfl⟩
                  rw [← eW9] at HA9 HX9 hHeld ⊢
                  clear eW9 r_0 r_1 r_2 r_3 HF6 HX HA HX6 HXn HXg
                  refine tkW 11 (some 17) (v := ?_) ?_ hHeld ?_
                  rotate_left
                  · (intro w _; go_simp; try with_reducible rfl)
                  refine wpAnyH_done (by kernel_rfl) ?_ _
                  clear hHeld
                  obtain ⟨z_0, z_1, _, _⟩ := row2_cells HX9.out
                  obtain ⟨y_0, y_1, y_2, y_3⟩ := row2_cells HA9.out.zbox
                  have HAz : Hid (AlS w bb F5 G2 H5 Y (addL Z1 256 (⟨ac, ar, sq, ds, kd, nc, nr, pc, pr, fc, fr, nm, vl⟩ : Ch)) R O5 yb zb (.slice ay Y.length cy) (.slice a6 (addL Z1 256 (⟨ac, ar, sq, ds, kd, nc, nr, pc, pr, fc, fr, nm, vl⟩ : Ch)).length c6) (.slice a6 (addL Z1 256 (⟨ac, ar, sq, ds, kd, nc, nr, pc, pr, fc, fr, nm, vl⟩ : Ch)).length c6) (.slice (some ⟨b, o, none⟩) R.length cap) (.slice (some ⟨gb, go, none⟩) O5.length c5) ((W9.setCell ⟨zb, 0, none⟩ (.int .i64 256)).setCell ⟨zb, 1, none⟩ (.slice a6 (addL Z1 256 (⟨ac, ar, sq, ds, kd, nc, nr, pc, pr, fc, fr, nm, vl⟩ : Ch)).length c6))) := HA9.out.put
                  rw [HWy.out]
                  clear HA9 HX9
                  obtain ⟨Z9, eZ9⟩ : ∃ X, X = (addL Z1 256 (⟨ac, ar, sq, ds, kd, nc, nr, pc, pr, fc, fr, nm, vl⟩ : Ch)) := ⟨_, rfl⟩
                  rw [← eZ9] at HAz HSt z_1 ⊢
                  clear eZ9
                  go_wp2
                  go_roundw
                  case rel => exact ⟨j + 1, Z9, G2, _, by omega, by go_num, HAz, HSt⟩
                  case measure => simp [intOf]; omega
              · obtain rfl : j = O5.length := by omega
                have HPn : Hid (HoP Y Z1 H5 (R.eraseIdx i)) := by
                  have h1 := HAd.out.2
                  rw [List.drop_length] at h1
                  have h2 := HTk.out.2.2
                  rw [← h1] at h2
                  exact h2
                clear HAd HTk HZY
                have HGl : Hid (∀ k, G k → k < wq.heap.size) := HA.out.dy.1
                obtain ⟨b', o', cap', E, e, hcap, hb, hE, hE2, hE3⟩ := HA.out.rest.row (by intro e; rw [e] at h0; simp at h0)
                simp only [Value.slice.injEq, Option.some.injEq, Addr.mk.injEq] at e
                obtain ⟨⟨rfl, rfl, _⟩, _, rfl⟩ := e
                have hEl : E.length = R.length := by rw [← hE]; simp
                have HE : Hid (E.map Prod.fst = R ∧ E.length = R.length ∧ (∀ x ∈ E, (∃ a n c, x.2 = .slice a n c) ∧ IsG G wq x.2 x.1.deps ∧ Sized x.1) ∧ (∀ i u, (flatH E)[i]? = some u → wq.cell? ⟨b, o + i, none⟩ = some u) ∧ G b) := ⟨hE, hEl, hE2, hE3, hb⟩
                have i2 : (i : Int) ≤ (cap : Int) := by omega
                obtain ⟨W0, eW⟩ : ∃ X, X = wq.alloc (.cells #[] 35) := ⟨_, rfl⟩
                have HP0 : Hid (PutA G wq (.slice (some ⟨wq.heap.size, 0, none⟩) 0 0) [] W0) := by
                  refine ⟨?_, fun x hx => by simp at hx, by rw [eW]; exact (Below.refl _ _).alloc (Nat.le_refl _) _, HGl.out⟩
                  rw [eW]
                  exact World.ownsRow_made wq (e := 35) (size := 13) (base := wq.heap.size) #[] 0 (by simp) (by unfold maxLen; omega) (by simp)
                have HC1 : Hid (∀ j u, (flatH (E.take i))[j]? = some u → W0.cell? ⟨b, o + j, none⟩ = some u) := by
                  intro j u hj
                  have hlt := HE.out.2.2.2.1 j u (by
                    rw [← List.take_append_drop i E, flatH_app]
                    rw [List.getElem?_append_left (by by_cases h : j < (flatH (E.take i)).length; exact h; rw [List.getElem?_eq_none (by omega)] at hj; cases hj)]
                    exact hj)
                  exact (HP0.out.bel.cell (p := ⟨b, o + j, none⟩) (HGl.out b HE.out.2.2.2.2)).trans hlt
                have HD1 : Hid (∀ x ∈ E.take i, (IsG G W0 x.2 x.1.deps ∨ OwnI wq.heap.size W0 x.2 x.1.deps) ∧ Sized x.1 ∧ x.1.deps.length ≤ 17592186044416) := fun x hx => by
                  obtain ⟨_, q1, q2⟩ := HE.out.2.2.1 x (List.mem_of_mem_take hx)
                  exact ⟨.inl (q1.keep (KeepsS.of_below HP0.out.bel HGl.out)), q2, by obtain ⟨_, _, _, _, h, _⟩ := q1; exact h⟩
                have HL1 : Hid ((E.take i).length = i) := by show _ = _; rw [List.length_take, HE.out.2.1]; omega
                have HC2 : Hid (∀ W, Below wq.heap.size wq W → ∀ j u, (flatH (E.drop (i + 1)))[j]? = some u → W.cell? ⟨b, o + (i + 1) * 13 + j, none⟩ = some u) := by
                  intro W hb j u hj
                  have hlt := HE.out.2.2.2.1 ((i + 1) * 13 + j) u (by
                    rw [← List.take_append_drop (i + 1) E, flatH_app]
                    rw [List.getElem?_append_right (by rw [flatH_length, List.length_take, HE.out.2.1]; omega)]
                    rw [flatH_length, List.length_take, HE.out.2.1, Nat.min_eq_left (by omega), Nat.add_sub_cancel_left]
                    exact hj)
                  rw [show o + (i + 1) * 13 + j = o + ((i + 1) * 13 + j) by omega]
                  exact (hb.cell (p := ⟨b, o + ((i + 1) * 13 + j), none⟩) (HGl.out b HE.out.2.2.2.2)).trans hlt
                have HD2 : Hid (∀ W, Below wq.heap.size wq W → ∀ x ∈ E.drop (i + 1), (IsG G W x.2 x.1.deps ∨ OwnI wq.heap.size W x.2 x.1.deps) ∧ Sized x.1 ∧ x.1.deps.length ≤ 17592186044416) := fun W hb x hx => by
                  obtain ⟨_, q1, q2⟩ := HE.out.2.2.1 x (List.mem_of_mem_drop hx)
                  exact ⟨.inl (q1.keep (KeepsS.of_below hb HGl.out)), q2, by obtain ⟨_, _, _, _, h, _⟩ := q1; exact h⟩
                have HL2 : Hid ((E.drop (i + 1)).length = R.length - (i + 1)) := by show _ = _; rw [List.length_drop, HE.out.2.1]
                have HX : Hid ((([] ++ E.take i) ++ E.drop (i + 1)).map Prod.fst = R.eraseIdx i ∧ (([] ++ E.take i) ++ E.drop (i + 1)).length ≤ 281474976710656) := by
                  refine ⟨?_, by simp [HE.out.2.1]; omega⟩
                  rw [List.eraseIdx_eq_take_drop_succ, List.nil_append, List.map_append, List.map_take, List.map_drop, HE.out.1]
                have HV : Hid (∀ x ∈ E.drop (i + 1), ∃ a n c, x.2 = .slice a n c) := fun x hx => (HE.out.2.2.1 x (List.mem_of_mem_drop hx)).1
                have i3 : (i : Int) + 1 ≤ (cap : Int) := by omega
                have i4 : (i : Int) + 1 ≤ (R.length : Int) := by omega
                clear hE hE2 hE3 hEl hb
                by_cases hcc : cap = i + 1
                · subst hcc
                  have hLi : R.length - (i + 1) = 0 := by omega
                  have HN : Hid (flatH (E.drop (i + 1)) = []) := by show _ = _; rw [List.eq_nil_of_length_eq_zero (HL2.out.trans hLi)]; rfl
                  clear hLi
                  go_wp2_with (first | (at_builtin; rw [← eW]; refine wpList_appHs rfl _ _ rfl wq.heap.size _ [] rfl HP0.out.own b o i (i + 1) (E.take i) rfl HL1.out HC1.out (fun x hx => (HE.out.2.2.1 x (List.mem_of_mem_take hx)).1) (by have := HL1.out; simp; omega) HP0.out.bel.size ?_; intro v1 w7 hown hgrow; have HP1 : Hid (PutA G wq v1 ([] ++ E.take i) w7) := HP0.out.pushs hown hgrow HD1.out; clear hown hgrow HP0 HC1 HD1 eW) | (at_builtin; refine wpList_appHs rfl _ _ rfl wq.heap.size _ ([] ++ E.take i) rfl HP1.out.own b o 0 0 (E.drop (i + 1)) rfl (HL2.out.trans (by omega)) (fun j u hj => by rw [HN.out] at hj; simp at hj) HV.out (by have := HL1.out; have := HL2.out; simp only [List.nil_append]; omega) HP1.out.bel.size ?_; intro v2 w8 hown hgrow; have HP2 : Hid (PutA G wq v2 (([] ++ E.take i) ++ E.drop (i + 1)) w8) := HP1.out.pushs hown hgrow (HD2.out _ HP1.out.bel); clear hown hgrow HP1 HD2))
                  go_roundw
                  case rel =>
                    have hf := HP2.out.firm HX.out.2
                    rw [HX.out.1] at hf
                    have hS9 := ((HA.out.growB HP2.out.bel).rTo hf).gTo (HFirm.none hf.1)
                    exact ⟨t + 1, _, _, R.eraseIdx i, _, _, _, by go_num, by rw [List.length_eraseIdx_of_lt hi]; omega, hS9, HPn⟩
                  case measure => simp [intOf]; omega
                · have hcc2 : i + 1 < cap := by omega
                  clear hcc
                  go_wp2_with (first | (at_builtin; rw [← eW]; refine wpList_appHs rfl _ _ rfl wq.heap.size _ [] rfl HP0.out.own b o i cap (E.take i) rfl HL1.out HC1.out (fun x hx => (HE.out.2.2.1 x (List.mem_of_mem_take hx)).1) (by have := HL1.out; simp; omega) HP0.out.bel.size ?_; intro v1 w7 hown hgrow; have HP1 : Hid (PutA G wq v1 ([] ++ E.take i) w7) := HP0.out.pushs hown hgrow HD1.out; clear hown hgrow HP0 HC1 HD1 eW) | (at_builtin; refine wpList_appHs rfl _ _ rfl wq.heap.size _ ([] ++ E.take i) rfl HP1.out.own b (o + (i + 1) * 13) (R.length - (i + 1)) (cap - (i + 1)) (E.drop (i + 1)) rfl HL2.out (HC2.out _ HP1.out.bel) HV.out (by have := HL1.out; have := HL2.out; simp only [List.nil_append]; omega) HP1.out.bel.size ?_; intro v2 w8 hown hgrow; have HP2 : Hid (PutA G wq v2 (([] ++ E.take i) ++ E.drop (i + 1)) w8) := HP1.out.pushs hown hgrow (HD2.out _ HP1.out.bel); clear hown hgrow HP1 HD2))
                  go_roundw
                  case rel =>
                    have hf := HP2.out.firm HX.out.2
                    rw [HX.out.1] at hf
                    have hS9 := ((HA.out.growB HP2.out.bel).rTo hf).gTo (HFirm.none hf.1)
                    exact ⟨t + 1, _, _, R.eraseIdx i, _, _, _, by go_num, by rw [List.length_eraseIdx_of_lt hi]; omega, hS9, HPn⟩
                  case measure => simp [intOf]; omega
        · obtain rfl : R = [] := List.eq_nil_of_length_eq_zero (by omega)
          obtain ⟨hH0, hZY⟩ := HP.out.done HGd.out (by omega) HA.out.buf.ok.2
          subst hH0 hZY
          obtain ⟨az, cz, ez⟩ := HA.out.dz.isH.form
          subst ez
          obtain ⟨aq, cq, eq⟩ := HA.out.rest.isH.form
          subst eq
          obtain ⟨y_0, y_1, _, _⟩ := row2_cells HA.out.ybox
          obtain ⟨z_0, z_1, _, _⟩ := row2_cells HA.out.zbox
          go_wp2_with fail
          clear y_0 y_1 z_0 z_1
          refine (sameAll_eq _ _ Z _ HA.out.dz.isH HA.out.dy.isH).mono ?_
          rintro e w7 ⟨rfl, hb7⟩
          have HB7 : Hid (BufH F w7 (.pointer (some ⟨bb, 0, none⟩)) 256 []) := HA.out.buf.below hb7
          have HW7 : Hid (Below w.heap.size w w7) := HA.out.bel.trans (hb7.mono HA.out.bel.size)
          clear hb7 HA HP
          go_wp2_with fail
          refine (lenH_any F _ 256 [] _ HB7.out).mono ?_
          rintro e w8 ⟨rfl, hb8⟩
          have HW8 : Hid (Below w.heap.size w w8) := HW7.out.trans (hb8.mono HW7.out.size)
          clear hb8 HB7
          go_wp2_with fail
          refine (awake_any _).mono ?_
          rintro e w9 ⟨rfl, hb9⟩
          have HB9 : Hid (Below w.heap.size w w9) := HW8.out.trans (hb9.mono HW8.out.size)
          clear hb9
          go_wp2
          go_ret
          exact ⟨rfl, HB9.out⟩

end Go.Proofs.Ythndgmnckpimmaa

namespace Go.Proofs.Ythndgmnckpimmaa
open Go.ChangeShapes Go.WideShapes Go.ChangeAt Go.RowKit
open Go.ChangeMaps (open_string shut_string)
set_option linter.unusedVariables false

set_option maxRecDepth 100000 in
theorem causalAll_lifted (os : Os) (started : os.Started) (H : Type) (enc : TypeId × Value → H) :
    ReturnsInHanded {} Try.checked os 4 .any (Rows.causalAllSpec.pre6 enc Try.prog Try.f4 Rows.causalAllRow.domain false) (Rows.causalAllSpec.post enc Try.prog Try.f4 false true false false) := by
  refine returnsInHanded_of_change_sized (C := Try.checked) ownI started (by kernel_rfl) Try.func4
    (ChangeSpec.witness6 (enc := enc) (C := Try.checked) false ⟨#[], #[.slice none 0 0, .slice none 0 0], []⟩ 8 (by kernel_rfl) (by kernel_rfl) (by kernel_rfl) (by kernel_rfl)) ?_
  intro W base args ds gs before hval0 hW _ hsz0 _
  have hval : ∀ (j : Nat) t v, Try.f4.params[j]? = some t → args[j]? = some v → Value.okWide Try.prog W .any base t v := hval0
  have hW' := hW
  obtain ⟨p, q, hA0, hV, rfl, hfz, hnd⟩ := hW
  have hA : DataW.TrodAll enc Try.prog W 0 (fun _ => true) true Try.f4.params.toList args.toList ds p := hA0
  rw [Try.params4] at hA hval
  obtain ⟨v0, v1, d0, d1, p0, p1, rfl, rfl, rfl, h0, h1⟩ := trodAll_two hA
  obtain ⟨rfl, rfl⟩ := trodVars_none hV
  have hk0 := h0
  have hk1 := h1
  obtain ⟨D1, hf1, hd1⟩ := open_intsV (hval 1 31 v1 rfl rfl) h1
  have hsz : (DataW.weightsEach Try.prog (Try.f4.params.toList ++ Rows.causalAllSpec.plain.varTypes Try.prog) (_ ++ _)).all (· ≤ reachBytes) = true := hsz0
  rw [Try.params4] at hsz
  have hw0 : ∀ n ∈ d0.weights Try.prog 28, n ≤ reachBytes := fun n hn => by
    have h1 := List.all_eq_true.1 hsz n (DataW.weights_mem_each (j := 0) rfl rfl n hn)
    simpa using h1
  obtain ⟨D0, is0, hl0⟩ := open_chsV (hval 0 28 v0 rfl rfl) h0 hw0
  have hlt0 : ∀ x ∈ p0, x.block < W.heap.size := fun x hx => by simpa using hW'.lt x (by simp [hx])
  have len1 : D1.length ≤ 17592186044416 := by
    rcases hd1 with ⟨_, rfl⟩ | ⟨els, sp, e, he⟩
    · simp
    · subst e
      have h1 := sized_slice hsz (j := 1) (t := 31) rfl rfl Try.underlying31
      have h2 : reachBytes ≤ 140737488355328 := by decide
      rw [bytesInt] at h1
      omega
  have is1 : IsI W v1 D1 := by obtain ⟨a, cap, e, h1, h2⟩ := hf1; exact ⟨a, cap, e, h1, len1, h2⟩
  have hlt1 : ∀ x ∈ p1, x.block < W.heap.size := fun x hx => by simpa using hW'.lt x (by simp [hx])
  clear hA0 hval0
  refine (allWalk v0 D0 v1 D1 W is0 is1).mono fun e W' ⟨he, bel⟩ => ?_
  subst he
  exact ⟨_, rfl, _, _, _, [], _, [], hW', trodAll_mk1 (shut_bool Try.underlying4 _), trodAll_mk2 (Below.trod laidOutI (by kernel_rfl) (of_decide_eq_true (by kernel_rfl)) hk0 bel hlt0) (Below.trod laidOutI (by kernel_rfl) (of_decide_eq_true (by kernel_rfl)) hk1 bel hlt1), rfl, bel.frame _, fun h => by cases h⟩

theorem causalAll_holds : Rows.CausalAllSaid :=
  OpenClaim.holds_of_wide 4 Try.f4 rfl rfl rfl rfl rfl rfl rfl ⟨rfl, rfl, rfl, rfl, rfl⟩ rfl rfl rfl rfl rfl (by kernel_rfl) Try.func4 (by kernel_rfl)
    (of_decide_eq_true (by kernel_rfl)) (by unfold Func.isWrapper; first | (rw [if_pos (by decide +kernel)]; kernel_rfl) | (rw [if_neg (by decide +kernel)]; exact ⟨rfl, rfl⟩))
    (fun os started H enc _ => causalAll_lifted os started H enc)
#print axioms causalAll_holds
end Go.Proofs.Ythndgmnckpimmaa
