/- What follows of the row's order: each slot once, who stands between, a slot more, the order in which they came, runs. -/
import Derived.Test.YtfgkdbidgbpobaaPlainRg
namespace Go.Proofs.Ytfgkdbidgbpobaa
set_option linter.unusedVariables false
set_option linter.unusedSimpArgs false

theorem rep_add {α : Type} (f : α → α) (n m : Nat) (x : α) : Nat.repeat f (n + m) x = Nat.repeat f n (Nat.repeat f m x) := by
  induction n with
  | zero => simp [Nat.repeat]
  | succ n ih => rw [Nat.add_right_comm]; simp only [Nat.repeat]; rw [ih]
theorem up_nd {L : List Sl} (h : GoodL L) {a : St} (ha : Nd L a) : Nd L (upO L a) ∧ (upO L a = a ∨ ltS (upO L a) a = true) := by
  rcases ha with rfl | ha
  · have e : afO L z0 = z0 := by
      unfold afO
      have : L.find? (fun s => decide (s.ts = z0)) = none := List.find?_eq_none.2 fun s hs => by simpa using hasL_no.1 h.zero s hs
      rw [this]
    have e2 : upO L z0 = z0 := by unfold upO; rw [e, h.zero]; rfl
    exact ⟨.inl e2, .inl e2⟩
  · obtain ⟨h1, h2⟩ := up_kid h ha
    exact ⟨h2, .inr (kid_up h h1 h2).2.2⟩
theorem rep_nd {L : List Sl} (h : GoodL L) {a : St} (ha : Nd L a) : ∀ n, Nd L (Nat.repeat (upO L) n a) ∧ (Nat.repeat (upO L) n a = a ∨ ltS (Nat.repeat (upO L) n a) a = true)
  | 0 => ⟨ha, .inl rfl⟩
  | n + 1 => by
    obtain ⟨h1, h2⟩ := rep_nd h ha n
    obtain ⟨h3, h4⟩ := up_nd h h1
    refine ⟨h3, ?_⟩
    show upO L (Nat.repeat (upO L) n a) = a ∨ ltS (upO L (Nat.repeat (upO L) n a)) a = true
    rcases h4 with h4 | h4
    · rw [h4]; exact h2
    · right
      rcases h2 with h2 | h2
      · rw [h2] at h4 ⊢; exact h4
      · exact ltS_trans h4 h2
theorem rep_of {L : List Sl} (h : GoodL L) {k x : St} (hk : Nd L k) (hx : x = k ∨ x ∈ bel L k) : ∃ n, Nat.repeat (upO L) n x = k := by
  rcases hx with rfl | hx
  · exact ⟨0, rfl⟩
  · obtain ⟨n, hn⟩ := iter_up h k hk x hx
    exact ⟨n + 1, hn⟩
theorem kid_apart {L : List Sl} (h : GoodL L) {a k1 k2 x : St} (ha : Nd L a) (h1 : k1 ∈ kidL L a) (h2 : k2 ∈ kidL L a) {i j : Nat} (hi : Nat.repeat (upO L) i x = k1) (hj : Nat.repeat (upO L) (i + j) x = k2) : k1 = k2 := by
  rw [Nat.add_comm, rep_add, hi] at hj
  cases j with
  | zero => exact hj
  | succ d =>
    exfalso
    obtain ⟨a1, a2, a3⟩ := kid_up h h1 ha
    obtain ⟨b1, b2, b3⟩ := kid_up h h2 ha
    have e : Nat.repeat (upO L) (d + 1) k1 = Nat.repeat (upO L) d (upO L k1) := by rw [rep_add]; rfl
    rw [e, a2] at hj
    rcases (rep_nd h ha d).2 with e | e
    · rw [hj] at e; rw [e, ltS_irr] at b3; cases b3
    · rw [hj] at e; rw [ltS_asym b3] at e; cases e
theorem kid_disj {L : List Sl} (h : GoodL L) {a k1 k2 : St} (ha : Nd L a) (h1 : k1 ∈ kidL L a) (h2 : k2 ∈ kidL L a) (hne : k1 ≠ k2) {x : St} (hx : x = k1 ∨ x ∈ bel L k1) (hy : x = k2 ∨ x ∈ bel L k2) : False := by
  obtain ⟨i, hi⟩ := rep_of h (.inr (kid_up h h1 ha).1) hx
  obtain ⟨j, hj⟩ := rep_of h (.inr (kid_up h h2 ha).1) hy
  rcases Nat.le_total i j with hij | hij
  · exact hne (kid_apart h ha h1 h2 hi (by rw [show i + (j - i) = j by omega]; exact hj))
  · exact hne (kid_apart h ha h2 h1 hj (by rw [show j + (i - j) = i by omega]; exact hi)).symm
theorem bel_nodup {L : List Sl} (h : GoodL L) (a : St) (ha : Nd L a) : (bel L a).Nodup := by
  refine bel_down h (P := fun a => (bel L a).Nodup) (fun a ha ih => ?_) a ha
  rw [bel_eq h ha, List.Nodup, List.pairwise_flatMap]
  refine ⟨fun k hk => ?_, ?_⟩
  · rw [List.mem_reverse] at hk
    refine List.pairwise_cons.2 ⟨fun y hy e => ?_, ih k hk⟩
    have := (bel_later h k (.inr (kid_up h hk ha).1) y hy).2
    rw [e, ltS_irr] at this
    cases this
  · rw [List.pairwise_reverse]
    have hn := (kidL_srt L a).nodup
    refine List.Pairwise.imp_of_mem ?_ hn
    intro k1 k2 hk1 hk2 hne x hx y hy e
    subst e
    exact kid_disj h ha hk1 hk2 hne (List.mem_cons.1 hy) (List.mem_cons.1 hx)
theorem bel_trans {L : List Sl} (h : GoodL L) {a x : St} (hx : x ∈ bel L a) : ∀ (c : St), Nd L c → a ∈ bel L c → x ∈ bel L c := by
  refine bel_down h (P := fun c => a ∈ bel L c → x ∈ bel L c) fun c hc ih ha => ?_
  obtain ⟨k, hk, e⟩ := (mem_bel h hc).1 ha
  rcases e with rfl | e
  · exact (mem_bel h hc).2 ⟨a, hk, .inr hx⟩
  · exact (mem_bel h hc).2 ⟨k, hk, .inr (ih k hk e)⟩
theorem filter_lt_of {α : Type} (L : List α) (f g : α → Bool) (h : ∀ s, f s = true → g s = true) {x : α} (hx : x ∈ L) (h1 : f x = false) (h2 : g x = true) : (L.filter f).length < (L.filter g).length := by
  induction L with
  | nil => cases hx
  | cons y l ih =>
    have hm := filter_le_of l f g h
    rcases List.mem_cons.1 hx with rfl | hx
    · simp only [List.filter_cons, h1, h2, if_true, Bool.false_eq_true, if_false, List.length_cons]
      omega
    · have := ih hx
      cases hf : f y with
      | true => simp only [List.filter_cons, hf, h y hf, if_true, List.length_cons]; omega
      | false => cases hg : g y <;> simp only [List.filter_cons, hf, hg, if_true, Bool.false_eq_true, if_false, List.length_cons] <;> omega
def earN (L : List Sl) (a : St) : Nat := (L.filter fun s => ltS s.ts a).length
theorem mem_ord {L : List Sl} (h : GoodL L) {x : St} : x ∈ ordL L ↔ hasL L x = true := by
  refine ⟨fun hx => (bel_later h z0 (.inl rfl) x hx).1, ?_⟩
  suffices H : ∀ n x, earN L x ≤ n → hasL L x = true → x ∈ ordL L from H _ x (Nat.le_refl _)
  intro n
  induction n with
  | zero =>
    intro x hn hx
    obtain ⟨h1, h2⟩ := up_kid h hx
    obtain ⟨a1, a2, a3⟩ := kid_up h h1 h2
    rcases h2 with h2 | h2
    · rw [h2] at h1; exact (mem_bel h (.inl rfl)).2 ⟨x, h1, .inl rfl⟩
    · obtain ⟨s, hs, e⟩ := hasL_iff.1 h2
      have : s ∈ L.filter fun s => ltS s.ts x := List.mem_filter.2 ⟨hs, by rw [e]; exact a3⟩
      have h0 : (L.filter fun s => ltS s.ts x) = [] := List.eq_nil_of_length_eq_zero (Nat.le_zero.1 hn)
      rw [h0] at this
      cases this
  | succ n ih =>
    intro x hn hx
    obtain ⟨h1, h2⟩ := up_kid h hx
    obtain ⟨a1, a2, a3⟩ := kid_up h h1 h2
    rcases h2 with h2 | h2
    · rw [h2] at h1; exact (mem_bel h (.inl rfl)).2 ⟨x, h1, .inl rfl⟩
    · obtain ⟨s, hs, e⟩ := hasL_iff.1 h2
      have hlt : earN L (upO L x) < earN L x := filter_lt_of L _ _ (fun s hs => ltS_trans hs a3) hs (by rw [e]; exact ltS_irr _) (by rw [e]; exact a3)
      have := ih (upO L x) (by omega) h2
      exact bel_trans h ((mem_bel h (.inr h2)).2 ⟨x, h1, .inl rfl⟩) z0 (.inl rfl) this
theorem ord_nodup {L : List Sl} (h : GoodL L) : (ordL L).Nodup := bel_nodup h z0 (.inl rfl)
theorem ord_perm {L : List Sl} (h : GoodL L) : (ordL L).Perm (L.map (·.ts)) := by
  refine (List.perm_ext_iff_of_nodup (ord_nodup h) h.nod).2 fun a => ?_
  rw [mem_ord h, hasL_iff, List.mem_map]
theorem ord_length {L : List Sl} (h : GoodL L) : (ordL L).length = L.length := by rw [(ord_perm h).length_eq, List.length_map]
theorem bel_length {L : List Sl} (h : GoodL L) {a : St} (ha : Nd L a) : (bel L a).length ≤ L.length := by
  have := nodup_mem_le (bel_nodup h a ha) (m := L.map (·.ts)) fun x hx => by obtain ⟨s, hs, e⟩ := hasL_iff.1 (bel_later h a ha x hx).1; exact List.mem_map.2 ⟨s, hs, e⟩
  simpa using this
/-- Where one stands among those beneath another one. -/
theorem kid_split {L : List Sl} (h : GoodL L) {a : St} (ha : Nd L a) {k1 k2 : List St} {k : St} (hk : kidL L a = k1 ++ k :: k2) : bel L a = (k2.reverse.flatMap fun k => k :: bel L k) ++ (k :: bel L k) ++ (k1.reverse.flatMap fun k => k :: bel L k) := by
  rw [bel_eq h ha, hk]
  simp [List.flatMap_append]
theorem bel_split {L : List Sl} (h : GoodL L) {a : St} : ∀ (c : St), Nd L c → a ∈ bel L c → ∃ r t, bel L c = r ++ (a :: bel L a) ++ t := by
  refine bel_down h (P := fun c => a ∈ bel L c → ∃ r t, bel L c = r ++ (a :: bel L a) ++ t) fun c hc ih ha => ?_
  obtain ⟨k, hk, e⟩ := (mem_bel h hc).1 ha
  obtain ⟨k1, k2, e2⟩ := List.append_of_mem hk
  have := kid_split h hc e2
  rcases e with rfl | e
  · exact ⟨_, _, this⟩
  · obtain ⟨r, t, e3⟩ := ih k hk e
    rw [e3] at this
    exact ⟨(k2.reverse.flatMap fun k => k :: bel L k) ++ k :: r, t ++ (k1.reverse.flatMap fun k => k :: bel L k), by rw [this]; simp⟩
/-- The last one of those beneath one, or that one itself. -/
def lastF (L : List Sl) : Nat → St → St
  | 0, a => a
  | n + 1, a => match kidL L a with | [] => a | k :: _ => lastF L n k
def lastO (L : List Sl) (a : St) : St := lastF L L.length a
theorem lastF_stable {L : List Sl} (h : GoodL L) : ∀ (n m : Nat) (a : St), Nd L a → latN L a ≤ n → latN L a ≤ m → lastF L n a = lastF L m a
  | n, m, a, ha, hn, hm => by
    cases e : kidL L a with
    | nil =>
      have : ∀ n, lastF L n a = a := fun n => by cases n <;> simp [lastF, e]
      rw [this n, this m]
    | cons k ks =>
      obtain ⟨h1, h2, h3⟩ := kid_up h (a := a) (k := k) (by rw [e]; simp) ha
      have := latN_lt h1 h3
      match n, m with
      | 0, _ => omega
      | _ + 1, 0 => omega
      | n + 1, m + 1 =>
        simp only [lastF, e]
        exact lastF_stable h n m k (.inr h1) (by omega) (by omega)
theorem lastO_eq {L : List Sl} (h : GoodL L) {a : St} (ha : Nd L a) : lastO L a = match kidL L a with | [] => a | k :: _ => lastO L k := by
  unfold lastO
  rw [lastF_stable h L.length (L.length + 1) a ha (latN_le L a) (Nat.le_trans (latN_le L a) (Nat.le_succ _))]
  rfl
theorem last_of {L : List Sl} (h : GoodL L) : ∀ (a : St), Nd L a → (a :: bel L a).getLast? = some (lastO L a) := by
  refine bel_down h (P := fun a => (a :: bel L a).getLast? = some (lastO L a)) fun a ha ih => ?_
  rw [lastO_eq h ha]
  cases e : kidL L a with
  | nil => rw [bel_eq h ha, e]; rfl
  | cons k ks =>
    have := ih k (by rw [e]; simp)
    rw [kid_split h ha (k1 := []) (k2 := ks) (k := k) (by rw [e]; rfl)]
    simp only [List.reverse_nil, List.flatMap_nil, List.append_nil]
    rw [← List.cons_append, List.getLast?_append, this]
    rfl
/-- Who stands just ahead of one. -/
def lastOr (L : List Sl) (u : St) (o : Option St) : St := match o with | none => u | some y => lastO L y
def aheadO (L : List Sl) (x : St) (i : Nat) : St := lastOr L (upO L x) (kidL L (upO L x))[i + 1]?
theorem before_kid {L : List Sl} (h : GoodL L) {a : St} (ha : Nd L a) {k1 k2 : List St} {k : St} (hk : kidL L a = k1 ++ k :: k2) : (a :: k2.reverse.flatMap fun k => k :: bel L k).getLast? = some (lastOr L a k2.head?) := by
  cases k2 with
  | nil => rfl
  | cons y k2 =>
    have := last_of h y (.inr (kid_up h (a := a) (k := y) (by rw [hk]; simp) ha).1)
    simp only [List.reverse_cons, List.flatMap_append, List.flatMap_cons, List.flatMap_nil, List.append_nil]
    rw [← List.cons_append, List.getLast?_append, this]
    rfl
theorem ord_ahead {L : List Sl} (h : GoodL L) {x : St} (hx : hasL L x = true) {i : Nat} (hi : (kidL L (upO L x))[i]? = some x) : ∃ p q, ordL L = p ++ x :: q ∧ (z0 :: p).getLast? = some (aheadO L x i) := by
  obtain ⟨h1, h2⟩ := up_kid h hx
  obtain ⟨u, eu⟩ : ∃ u, u = upO L x := ⟨_, rfl⟩
  unfold aheadO
  rw [← eu] at h1 h2 hi ⊢
  have hil := (List.getElem?_eq_some_iff.1 hi).1
  have e1 : kidL L u = (kidL L u).take i ++ x :: (kidL L u).drop (i + 1) := by
    have := (List.getElem?_eq_some_iff.1 hi).2
    conv => lhs; rw [← List.take_append_drop i (kidL L u), List.drop_eq_getElem_cons hil, this]
  have e2 := kid_split h h2 e1
  have e3 := before_kid h h2 e1
  rw [List.head?_drop] at e3
  rcases h2 with h2 | h2
  · subst h2
    refine ⟨_, bel L x ++ ((kidL L z0).take i).reverse.flatMap (fun k => k :: bel L k), ?_, e3⟩
    show bel L z0 = _
    rw [e2, List.append_assoc, List.cons_append]
  · obtain ⟨r, t, e5⟩ := bel_split h (a := u) z0 (.inl rfl) ((mem_ord h).2 h2)
    refine ⟨r ++ u :: ((kidL L u).drop (i + 1)).reverse.flatMap fun k => k :: bel L k, bel L x ++ ((kidL L u).take i).reverse.flatMap (fun k => k :: bel L k) ++ t, ?_, ?_⟩
    · show bel L z0 = _
      rw [e5, e2]
      simp [List.append_assoc]
    · rw [← List.cons_append, List.getLast?_append, e3]
      rfl
/-- A slot stands behind its After, if that is there, and all between are later. -/
theorem ord_behind {L : List Sl} (h : GoodL L) {s : Sl} (hs : s ∈ L) : ∃ p q, ordL L = p ++ s.ts :: q ∧ ((hasL L s.af = false ∧ ∀ y ∈ p, ltS s.ts y = true) ∨ (hasL L s.af = true ∧ ∃ r m, p = r ++ s.af :: m ∧ ∀ y ∈ m, ltS s.ts y = true)) := by
  have hx : hasL L s.ts = true := hasL_iff.2 ⟨s, hs, rfl⟩
  obtain ⟨h1, h2⟩ := up_kid h hx
  have eu : upO L s.ts = if hasL L s.af = true then s.af else z0 := by unfold upO; rw [afO_mem h hs]
  obtain ⟨u, e0⟩ : ∃ u, u = upO L s.ts := ⟨_, rfl⟩
  rw [← e0] at h1 h2 eu
  obtain ⟨k1, k2, e1⟩ := List.append_of_mem h1
  have e2 := kid_split h h2 e1
  have hl : ∀ y ∈ k2.reverse.flatMap (fun k => k :: bel L k), ltS s.ts y = true := fun y hy => by
    obtain ⟨k, hk, hy⟩ := List.mem_flatMap.1 hy
    rw [List.mem_reverse] at hk
    have hsr := kidL_srt L u
    rw [e1] at hsr
    have h3 : ltS s.ts k = true := (List.pairwise_cons.1 (List.pairwise_append.1 hsr).2.1).1 k hk
    rcases List.mem_cons.1 hy with rfl | hy
    · exact h3
    · exact ltS_trans h3 (bel_later h k (.inr (kid_up h (a := u) (by rw [e1]; simp [hk]) h2).1) y hy).2
  cases hf : hasL L s.af with
  | false =>
    rw [hf] at eu
    simp only [Bool.false_eq_true, if_false] at eu
    subst eu
    refine ⟨_, bel L s.ts ++ k1.reverse.flatMap (fun k => k :: bel L k), ?_, .inl ⟨rfl, hl⟩⟩
    show bel L z0 = _
    rw [e2]
    simp [List.append_assoc]
  | true =>
    rw [hf] at eu
    simp only [if_true] at eu
    subst eu
    obtain ⟨r, t, e5⟩ := bel_split h (a := s.af) z0 (.inl rfl) ((mem_ord h).2 hf)
    refine ⟨r ++ s.af :: k2.reverse.flatMap (fun k => k :: bel L k), bel L s.ts ++ k1.reverse.flatMap (fun k => k :: bel L k) ++ t, ?_, .inr ⟨rfl, r, _, rfl, hl⟩⟩
    show bel L z0 = _
    rw [e5, e2]
    simp [List.append_assoc]
/-- The order in which slots came says nothing. -/
theorem ord_any {L M : List Sl} (p : L.Perm M) : ordL L = ordL M := by
  have hh : ∀ a, hasL L a = hasL M a := fun a => by
    rw [Bool.eq_iff_iff, hasL_iff, hasL_iff]
    exact ⟨fun ⟨s, hs, e⟩ => ⟨s, p.mem_iff.1 hs, e⟩, fun ⟨s, hs, e⟩ => ⟨s, p.mem_iff.2 hs, e⟩⟩
  have hk : ∀ a, kidL L a = kidL M a := fun a => by
    unfold kidL
    split
    · refine frL_eq (frL_srt M) fun q => ?_
      rw [mem_frL]
      exact ⟨fun ⟨s, hs, e, e2⟩ => ⟨s, p.mem_iff.2 hs, by rw [hh]; exact e, e2⟩, fun ⟨s, hs, e, e2⟩ => ⟨s, p.mem_iff.1 hs, by rw [← hh]; exact e, e2⟩⟩
    · refine behL_eq (behL_srt M a) fun q => ?_
      rw [mem_behL]
      exact ⟨fun ⟨s, hs, e, e2⟩ => ⟨s, p.mem_iff.2 hs, e, e2⟩, fun ⟨s, hs, e, e2⟩ => ⟨s, p.mem_iff.1 hs, e, e2⟩⟩
  have hb : ∀ n a, belF L n a = belF M n a := fun n => by
    induction n with
    | zero => intro a; rfl
    | succ n ih => intro a; simp only [belF, hk a, ih]
  unfold ordL bel
  rw [hb, p.length_eq]
/-- A slot more, behind which none was put: the others stay. -/
theorem ord_keeps {L : List Sl} (h : GoodL L) {s : Sl} (ho : okS s = true) (hn : hasL L s.ts = false) (hb : ∀ t ∈ L, t.af ≠ s.ts) (ha : s.af = z0 ∨ hasL L s.af = true) : (ordL (L ++ [s])).filter (fun x => decide (x ≠ s.ts)) = ordL L := by
  have h' := h.snoc ho hn
  have hbe : behL L s.ts = [] := by
    refine behL_eq List.Pairwise.nil fun q => ⟨fun hq => absurd hq (by simp), fun ⟨t, ht, e, _⟩ => absurd e (hb t ht)⟩
  have hz : s.ts ≠ z0 := fun e => by have := okS_pos ho; rw [e, ltS_irr] at this; cases this
  have hnone : bel (L ++ [s]) s.ts = [] := by
    rw [bel_eq h' (.inr (by rw [hasL_snoc]; simp))]
    unfold kidL
    rw [if_neg hz, beh_snoc, if_neg (okS_ne ho), hbe]
    rfl
  have hk : ∀ a, a ≠ s.ts → kidL (L ++ [s]) a = kidL L a ∨ kidL (L ++ [s]) a = insS (kidL L a) s.ts := fun a hne => by
    unfold kidL
    split
    · rw [fr_snoc h ho hn, hbe]
      simp only [List.reverse_nil, delAll, List.foldl_nil]
      split
      · exact .inl rfl
      · exact .inr rfl
    · rw [beh_snoc]
      split
      · exact .inr rfl
      · exact .inl rfl
  have hfil : ∀ a, a ≠ s.ts → Nd L a → ((kidL (L ++ [s]) a).filter fun x => decide (x ≠ s.ts)) = kidL L a := fun a hne hnd => by
    have hnot : s.ts ∉ kidL L a := fun hm => by
      have := (kid_up h hm hnd).1
      rw [hn] at this
      cases this
    refine SrtS.ext (List.Pairwise.sublist List.filter_sublist (kidL_srt _ _)) (kidL_srt _ _) fun q => ?_
    rw [List.mem_filter]
    rcases hk a hne with e | e
    · rw [e]
      exact ⟨fun h => h.1, fun hq => ⟨hq, by simpa using fun e : q = s.ts => hnot (e ▸ hq)⟩⟩
    · rw [e, mem_insS']
      constructor
      · rintro ⟨h1 | h1, h2⟩
        · simp at h2; exact absurd h1 h2
        · exact h1
      · intro hq
        exact ⟨.inr hq, by simpa using fun e : q = s.ts => hnot (e ▸ hq)⟩
  have key : ∀ a, Nd L a → (bel (L ++ [s]) a).filter (fun x => decide (x ≠ s.ts)) = bel L a := by
    refine bel_down h (P := fun a => (bel (L ++ [s]) a).filter (fun x => decide (x ≠ s.ts)) = bel L a) fun a hnd ih => ?_
    have hne : a ≠ s.ts := by
      rcases hnd with rfl | hnd
      · exact fun e => hz e.symm
      · intro e; rw [e, hn] at hnd; cases hnd
    have hnd' : Nd (L ++ [s]) a := hnd.imp id fun e => by rw [hasL_snoc, e]; rfl
    rw [bel_eq h' hnd', bel_eq h hnd, List.filter_flatMap, ← hfil a hne hnd, ← List.filter_reverse]
    have hin : ∀ k ∈ (kidL (L ++ [s]) a), k ≠ s.ts → (k :: bel (L ++ [s]) k).filter (fun x => decide (x ≠ s.ts)) = k :: bel L k := fun k hk hkn => by
      have hkL : k ∈ kidL L a := by rw [← hfil a hne hnd]; exact List.mem_filter.2 ⟨hk, by simpa using hkn⟩
      rw [List.filter_cons, if_pos (by simpa using hkn), ih k hkL]
    have : ∀ l : List St, (∀ k ∈ l, k ∈ kidL (L ++ [s]) a) → (l.flatMap fun k => (k :: bel (L ++ [s]) k).filter (fun x => decide (x ≠ s.ts))) = (l.filter fun x => decide (x ≠ s.ts)).flatMap fun k => k :: bel L k := fun l => by
      induction l with
      | nil => intro _; rfl
      | cons k l ihl =>
        intro hm
        rw [List.flatMap_cons, ihl fun x hx => hm x (List.mem_cons_of_mem _ hx)]
        by_cases e : k = s.ts
        · rw [List.filter_cons (x := k) (xs := l), if_neg (by simpa using e), e, hnone]
          simp
        · rw [hin k (hm k (List.mem_cons_self ..)) e, List.filter_cons (x := k) (xs := l), if_pos (by simpa using e), List.flatMap_cons]
    exact this _ fun k hk => List.mem_reverse.1 hk
  exact key z0 (.inl rfl)
end Go.Proofs.Ytfgkdbidgbpobaa
