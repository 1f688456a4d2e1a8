/- All that registers have. -/
import Derived.Test.YtoljacnipkibiaaLwK
import Derived.Test.YtoljacnipkibiaaSrtB
import Derived.Test.YtoljacnipkibiaaLaysZ
import Derived.Test.YtoljacnipkibiaaLwF
import Derived.Laws.EntriesVeiled
import Derived.Maps.AppendAt
import Derived.OwnWalkIn
import Derived.RangeFuncBox
import Derived.Sort.OwnSorted
namespace Go.Proofs.Ytoljacnipkibiaa
open Go.RowKit Go.Shelf Go.Sort
set_option linter.unusedVariables false
set_option linter.unusedSimpArgs false

attribute [local go_sem] Oper.semAt_some

theorem nodup_le {α : Type} [DecidableEq α] : ∀ {l m : List α}, l.Nodup → (∀ x ∈ l, x ∈ m) → l.length ≤ m.length
  | [], _, _, _ => Nat.zero_le _
  | x :: l, m, hn, hm => by
    have h1 := List.nodup_cons.1 hn
    have h2 : l.length ≤ (m.erase x).length := nodup_le h1.2 fun y hy => (List.mem_erase_of_ne (fun e : y = x => h1.1 (by rw [← e]; exact hy))).2 (hm y (List.mem_cons_of_mem _ hy))
    have h3 := List.length_erase_of_mem (hm x (List.mem_cons_self ..))
    have h4 : 0 < m.length := List.length_pos_of_mem (hm x (List.mem_cons_self ..))
    simp only [List.length_cons]
    omega
/-- What a round of of's must keep. -/
def KpO (S : Nat → Prop) (A B : World) : Prop := KeepsS S A B ∧ KindT 9 A B
theorem KpO.trans {S : Nat → Prop} {A B C : World} (h : KpO S A B) (k : KpO S B C) : KpO S A C := ⟨h.1.trans k.1, h.2.trans k.2⟩
theorem KpO.below {S : Nat → Prop} {A B : World} (h : Below A.heap.size A B) (hS : ∀ k, S k → k < A.heap.size) : KpO S A B := ⟨KeepsS.of_below h hS, KindT.below h⟩
theorem KpO.loop {S : Nat → Prop} {w : World} (hn : ∀ k, S k → k < w.heap.size) (W : World) (l : Nat) (o o' : Obj) (hl : w.heap.size ≤ l) (h : W.heap[l]? = some o) (h1 : o.isCells = false) (h2 : o.isWalk = false) : KpO S W (W.putObj l o') :=
  ⟨keepsSK_b hn W l o o' hl h h1 h2, fun k cs fr e => by
    have hk : k ≠ l := fun e2 => by
      subst e2
      rw [h] at e
      cases e
      simp [Obj.isCells] at h1
    exact (World.putObj_heap_other hk).trans e⟩

theorem of_nil (n : Nat) (l Bx Bs : Nat) (J Jx : Nat → World → Prop) (W : World) (hx : W.cell? ⟨Bx, 0, none⟩ = some (.pointer none)) (h0 : J 0 W) :
    CallsIn Fence.wide n Try.prog 52 #[.func (.yield l) #[] #[], .pointer (some ⟨Bx, 0, none⟩), .pointer (some ⟨Bs, 0, none⟩)] W fun e W' => (∃ v, e = .returned v) ∧ (J 0 W' ∨ ∃ k, k ≤ 0 ∧ Jx k W') := by
  have H0 : Hid (J 0 W) := h0
  clear h0
  refine callsIn_of_wp Try.func52 rfl trivial ?_ rfl
  simp only [Try.ntmps52, List.size_toArray, List.length_cons, List.length_nil, Nat.reduceAdd, Nat.reduceSub, Array.replicate_succ, Array.replicate_zero, List.push_toArray, List.append_toArray, List.nil_append, List.cons_append]
  gi_wp2
  refine bodyPost_ret (results_none rfl _ _ _) rfl ?_
  exact ⟨⟨_, rfl⟩, .inl H0.out⟩

theorem of_seq (n : Nat) (hn : 2 ≤ n) (Bx Bs : Nat) (F S : Nat → Prop) (s : St) (R : List Rg) (v : Value) (w : World) (hx : BxC Bx [v] 31 w) (hs : BxC Bs (stCells s) 23 w) (hR : RegV F w v R)
    (hSx : S Bx) (hSs : S Bs) (hSF : ∀ k, F k → S k) (hSl : ∀ k, S k → k < w.heap.size) : SeqOf n Try.prog 52 #[.pointer (some ⟨Bx, 0, none⟩), .pointer (some ⟨Bs, 0, none⟩)] encR (KpO S) (ofR R s) w := fun l J Jx W hW hJ _ hY h0 => by
  rcases hR with ⟨rb, rfl, B, mh, mn, E, h, hN, hl⟩ | ⟨rfl, rfl⟩
  · exact of_in n hn l Bx Bs rb F S s R B mh mn E J Jx W (OfS.below ⟨hx, hs, h⟩ hW) hN hl hSx hSs hSF (fun k hk => Nat.lt_of_lt_of_le (hSl k hk) hW.size) hJ hY h0
  · exact of_nil n l Bx Bs J Jx W ((hx.below hW).cell 0 _ rfl) h0

theorem of_any (v : Value) (s : St) (w : World) (hv : ∃ p, v = .pointer p) :
    Calls Try.prog 40 #[v, .agg #[.int .i64 s.1, .int .i64 s.2]] w fun e w' => e = .returned (.func (.func 52) #[] #[.pointer (some ⟨w.heap.size, 0, none⟩), .pointer (some ⟨w.heap.size + 1, 0, none⟩)]) ∧ w' = (w.alloc (.cells [v].toArray 31)).alloc (.cells (stCells s).toArray 23) := by
  obtain ⟨p, rfl⟩ := hv
  go_enter Try.func40, Try.ntmps40
  go_wp2
  go_ret
  exact ⟨by simp, rfl⟩

set_option maxHeartbeats 1000000 in
set_option maxRecDepth 100000 in
/-- ident.Rising, and the row as one of stamps. -/
theorem rising2 (v : Value) (d : List (Int × Int)) (w : World) (h : S.IsS w v d) :
    Calls Try.prog 37 #[v] w fun e w' => ∃ Bs a cap, e = .returned (.func (.func 49) #[] #[.pointer (some ⟨Bs, 0, none⟩)]) ∧ BxC Bs [.slice a (S.sortL d).length cap] 69 w' ∧ w.heap.size ≤ Bs ∧ LsE stCells 2 (fun k => w.heap.size ≤ k ∧ k < w'.heap.size) w' (.slice a (S.sortL d).length cap) (S.sortL d) ∧ Below w.heap.size w w' := by
  have HV : Hid (S.IsS w v d) := h
  clear h
  go_enter Try.func37, Try.ntmps37
  go_wp2_with fail
  refine (S.ordered_any v d _ HV.out).mono ?_
  rintro e w2 ⟨a, cap, rfl, hs, hg, hb⟩
  rw [S.comp_sort d] at hs hg ⊢
  have HG : Hid (S.sortL d = [] ∨ ∃ g, a = some ⟨g, 0, none⟩ ∧ w.heap.size ≤ g) := hg
  have HB : Hid (Below w.heap.size w w2) := hb
  have HS : Hid (S.IsS w2 (.slice a (S.sortL d).length cap) (S.sortL d)) := hs
  clear hs hg hb
  go_wp2
  go_ret
  obtain ⟨a', cap', e1, hc, hl, hr⟩ := HS.out
  cases e1
  have ha : Below w2.heap.size w2 (w2.alloc (.cells #[.slice a (S.sortL d).length cap] 69)) := (Below.refl _ _).alloc (Nat.le_refl _) _
  refine ⟨w2.heap.size, a, cap, rfl, BxC.new _ _ _, HB.out.size, ⟨a, cap, rfl, hc, hl, ?_⟩, HB.out.trans (ha.mono HB.out.size)⟩
  rcases hr with e | ⟨b, o, e, hr⟩
  · exact .inl e
  · by_cases hd : S.sortL d = []
    · exact .inl hd
    · obtain ⟨g, e2, hg⟩ := HG.out.resolve_left hd
      rw [e] at e2
      cases e2
      have hlt := hr.lt hd
      refine .inr ⟨b, 0, e, ⟨hg, Nat.lt_of_lt_of_le hlt ha.size⟩, Nat.lt_of_lt_of_le hlt ha.size, fun i hi j u hu => ?_⟩
      have h2 := (hr.below ha) i hi
      match j, hu with
      | 0, hu => cases hu; exact h2.1
      | 1, hu => cases hu; exact h2.2
      | j + 2, hu => simp [stCells] at hu

theorem K.len_h {w : World} {b : Nat} {R : List Rg} (h : HMap w b R) : (Builtin.len_ #[61] 3 #[.map (some b)]).run Try.prog w = .ok (.int .i64 (R.length : Int)) w := by
  obtain ⟨D, ⟨es, cl, hb, he⟩, hp⟩ := h
  have hz : es.size = R.length := by
    have h1 := congrArg List.length he.ent
    simp only [List.length_map, Array.length_toList] at h1
    rw [h1, hp.length_eq]
  simp [Builtin.len_, run_underlying Try.underlying61, run_underlying Try.underlying3, MapKept.run_getObj_map hb, hz, Result.andThen]
  rfl

section
variable {α : Type} {enc : α → List Value} {n : Nat} {T TS : TypeId} {w W2 : World} {b0 : Nat} {S S' : Nat → Prop} {ov ov' : Value} {E E' : List α} {U U' : World}
theorem ColB.inn (h : ColB enc n T TS w W2 b0 S ov E U) (hl : ∀ k, S' k → k < U.heap.size) (hb : ¬ S' b0) (hv : ∀ k, ov.ownBlock = some k → ¬ S' k) : ColB enc n T TS w U b0 S' ov E U :=
  ⟨h.box, h.own, h.bel, KeepsS.refl _ _, hl, h.b1, Nat.lt_of_lt_of_le h.b2 h.size, hb, hv⟩
theorem ColB.outw (h : ColB enc n T TS w W2 b0 S ov E U) (h2 : ColB enc n T TS w U b0 S' ov' E' U') (hs : ∀ k, S k → S' k) : ColB enc n T TS w W2 b0 S ov' E' U' :=
  ⟨h2.box, h2.own, h2.bel, h.kp.trans ⟨h2.kp.1, fun k hk => h2.kp.2 k (hs k hk)⟩, h.kl, h.b1, h.b2, h.b3, fun k e hk => h2.vs k e (hs k hk)⟩
end
theorem KeepsFrom.grown {B : Nat} {W A C : World} (h : KeepsFrom B W A) {row : Option Nat} (hg : A.grownBy C row) (hr : ∀ r, row = some r → W.heap.size ≤ r) : KeepsFrom B W C :=
  ⟨Nat.le_trans h.size hg.size, fun k o hB hk ho => (hg.block k (Nat.lt_of_lt_of_le (Array.getElem?_eq_some_iff.1 hk).1 h.size) (fun e => by have := hr k e.symm; have := (Array.getElem?_eq_some_iff.1 hk).1; omega)).trans (h.same k o hB hk ho)⟩
theorem RegV.keep {F : Nat → Prop} {w w' : World} {v : Value} {R : List Rg} (h : RegV F w v R) (hk : KeepsS F w w') : RegV F w' v R := h.imp (fun ⟨rb, e, h⟩ => ⟨rb, e, h.keep hk⟩) id
/-- The nodes. -/
theorem nodes_of {F : Nat → Prop} {w : World} {rb : Nat} {R : List Rg} {B : St → List ByteArray} {mh mn : Nat} {E : List (St × Value)} (h : RegIs F w rb R B mh mn E) (hn : NmsOk R B) (s : St) : s ∈ E.map Prod.fst ↔ ∃ r ∈ R, r.nd = s := by
  constructor
  · intro hs
    obtain ⟨x, hx, rfl⟩ := List.mem_map.1 hs
    obtain ⟨m, hm⟩ := List.exists_mem_of_ne_nil _ (h.nem x hx)
    obtain ⟨r, hr, e, _⟩ := (hn x.1 m).1 hm
    exact ⟨r, hr, e⟩
  · rintro ⟨r, hr, rfl⟩
    have hm := (hn r.nd r.nm).2 ⟨r, hr, rfl, rfl⟩
    refine Classical.byContradiction fun hc => ?_
    have := h.no r.nd fun x hx e => hc (List.mem_map.2 ⟨x, hx, e⟩)
    rw [this] at hm
    cases hm
theorem nodes_len {F : Nat → Prop} {w : World} {rb : Nat} {R : List Rg} {B : St → List ByteArray} {mh mn : Nat} {E : List (St × Value)} (h : RegIs F w rb R B mh mn E) (hn : NmsOk R B) : E.length ≤ R.length := by
  have := nodup_le (l := E.map Prod.fst) (m := R.map (·.nd)) h.nod (fun s hs => by obtain ⟨r, hr, e⟩ := (nodes_of h hn s).1 hs; exact List.mem_map.2 ⟨r, hr, e⟩)
  simpa using this

set_option maxRecDepth 100000 in
set_option maxHeartbeats 8000000 in
theorem all_ok (F : Nat → Prop) (rb : Nat) (R : List Rg) (w : World) (h : RegOk F w rb R) :
    Calls Try.prog 18 #[.pointer (some ⟨rb, 0, none⟩)] w fun e w' => ∃ u, e = .returned u ∧ OwnRg w.heap.size w' u R ∧ Below w.heap.size w w' := by
  refine (callsIn_wide (n := 14)).1 ?_
  obtain ⟨B, mh, mn, E, h, hNm, hl⟩ := h
  obtain ⟨irg, hirg, hz0rg, hz1rg, hz2rg⟩ := info_parts infoReg
  have HEl : Hid (E.length ≤ 4096) := Nat.le_trans (nodes_len h hNm) hl
  have HNd : Hid (∀ s, s ∈ E.map Prod.fst ↔ ∃ r ∈ R, r.nd = s) := nodes_of h hNm
  have HFl : Hid (∀ k, F k → k < w.heap.size) := h.lt
  have HSr : Hid (SrtR R) := h.srt
  obtain ⟨W0, eW0⟩ : ∃ X, X = w.alloc (.cells [.pointer (some ⟨rb, 0, none⟩)].toArray 31) := ⟨_, rfl⟩
  have hb0 : Below w.heap.size w W0 := by rw [eW0]; exact (Below.refl _ _).alloc (Nat.le_refl _) _
  have hX0 : BxC w.heap.size [.pointer (some ⟨rb, 0, none⟩)] 31 W0 := by rw [eW0]; exact BxC.new _ _ _
  have h0 : RegIs F W0 rb R B mh mn E := h.below hb0
  obtain ⟨W1, hmk, hown1, hg1⟩ := run_make_own (P := Try.prog) W0 w.heap.size 30 25 irg (.agg #[.int .i64 0, .int .i64 0, .string ⟨#[]⟩, .int .i64 0, .int .i64 0, .string ⟨#[]⟩, .bool false]) 7 Try.underlying30 hirg hz0rg hz1rg .i64 .i64 R.length (by rw [hz2rg]; omega) (by unfold maxLen; omega) hb0.size
  have eS0 : W0.heap.size = w.heap.size + 1 := by rw [eW0]; simp
  have hb1 : Below W0.heap.size W0 W1 := ⟨hg1.os, hg1.tape, hg1.output, hg1.size, fun k hk => hg1.block k hk (by simp)⟩
  have hs1 : W0.heap.size < W1.heap.size := (hown1.lt W0.heap.size rfl).2
  rw [eS0] at hown1 hmk hs1
  obtain ⟨W2, eW2⟩ : ∃ X, X = W1.alloc (.cells [(.slice (some ⟨w.heap.size + 1, 0, none⟩) 0 R.length)].toArray 30) := ⟨_, rfl⟩
  have hb2 : Below W1.heap.size W1 W2 := by rw [eW2]; exact (Below.refl _ _).alloc (Nat.le_refl _) _
  have HO : Hid (BxC W1.heap.size [(.slice (some ⟨w.heap.size + 1, 0, none⟩) 0 R.length)] 30 W2) := by rw [eW2]; exact BxC.new _ _ _
  have HOw : Hid (OwnRg w.heap.size W2 (.slice (some ⟨w.heap.size + 1, 0, none⟩) 0 R.length) []) := OwnE.below (D := []) hown1 hb2
  have HB2 : Hid (Below w.heap.size w W2) := hb0.trans ((hb1.mono hb0.size).trans (hb2.mono (Nat.le_trans hb0.size hb1.size)))
  have HX2 : Hid (BxC w.heap.size [.pointer (some ⟨rb, 0, none⟩)] 31 W2) := (hX0.below hb1).below hb2
  have HR2 : Hid (RegIs F W2 rb R B mh mn E) := (h0.below hb1).below hb2
  have HSz : Hid (w.heap.size + 1 < W1.heap.size) := hs1
  have x0 := hX0.cell 0 _ rfl
  have c0 := h0.c0
  have hln := K.len_h h0.hm
  have x2 := HX2.out.cell 0 _ rfl
  have c1 := HR2.out.c1
  rw [eW2] at x2 c1
  have HE0 : Hid (W0 = w.alloc (.cells [.pointer (some ⟨rb, 0, none⟩)].toArray 31)) := eW0
  have HE2 : Hid (W2 = W1.alloc (.cells [(.slice (some ⟨w.heap.size + 1, 0, none⟩) 0 R.length)].toArray 30)) := eW2
  rw [eW0] at x0 c0 hln hmk
  have HNm : Hid (NmsOk R B) := hNm
  clear h h0 hX0 hb0 hb1 hb2 hg1 hown1 eW0 eW2 hNm eS0 hs1
  refine callsIn_of_wp_marksN Try.func18 rfl trivial ?_ rfl
  simp only [Try.ntmps18, List.size_toArray, List.length_cons, List.length_nil, Nat.reduceAdd, Nat.reduceSub, Array.replicate_succ, Array.replicate_zero, List.push_toArray, List.append_toArray, List.nil_append, List.cons_append]
  gi_wp2_with fail
  have HE3 := HE2.out
  rw [← HE3]
  clear HE3 HE2 HE0 x0 c0 hln hmk x2 c1
  refine ⟨trivial, (callsIn_wide.2 (keys_any _ _ ⟨_, rfl⟩)).mono ?_⟩
  rintro e W3 ⟨rfl, eW3⟩
  have hb3 : Below W2.heap.size W2 W3 := by rw [eW3]; exact (Below.refl _ _).alloc (Nat.le_refl _) _
  have HK3 : Hid (BxC W2.heap.size [.map (some mn)] 62 W3) := by rw [eW3]; exact BxC.new _ _ _
  clear eW3
  have HR3 : Hid (RegIs F W3 rb R B mh mn E) := HR2.out.below hb3
  have HB3 : Hid (Below W2.heap.size W2 W3) := hb3
  obtain ⟨bk, ebk⟩ : ∃ b, b = W2.heap.size := ⟨_, rfl⟩
  rw [← ebk] at HK3 ⊢
  clear ebk hb3
  gi_wp2_with fail
  refine ⟨trivial, (callsIn_wide.2 (colT_any 51 #[.pointer (some ⟨bk, 0, none⟩)] (enters_of Try.func51 (by kernel_rfl) rfl) (fun k => k = mn) (E.map Prod.fst) W3 (by rw [List.length_map]; have := HEl.out; omega) (fun k e => by rw [e]; exact HR3.out.nm.lt) (keys_seq 4 (by omega) bk mn E W3 (HK3.out.cell 0 _ rfl) HR3.out.nm trivial).keys)).mono ?_⟩
  rintro e W4 ⟨v4, D4, rfl, hp4, ho4, hb4⟩
  have HB4 : Hid (Below W2.heap.size W2 W4) := HB3.out.trans (hb4.mono HB3.out.size)
  have HV4 : Hid (S.IsS W4 v4 D4) := S.OwnS.isS (B := W3.heap.size) ho4 (by have := HEl.out; have := hp4.length_eq; rw [List.length_map] at this; omega)
  have HD4 : Hid (D4.length ≤ 4096 ∧ ∀ s, s ∈ D4 ↔ ∃ r ∈ R, r.nd = s) := (by refine ⟨?_, fun s => (hp4.mem_iff).trans (HNd.out s)⟩; have := HEl.out; have := hp4.length_eq; rw [List.length_map] at this; omega)
  obtain ⟨a4, c4, e4⟩ := ho4.form
  subst e4
  clear hp4 ho4 hb4 HK3 HR3 HB3 HNd
  gi_wp2_with fail
  refine ⟨trivial, (callsIn_wide.2 (rising2 _ D4 W4 HV4.out)).mono ?_⟩
  rintro e W5 ⟨Bs, a5, c5, rfl, hB5, hlo5, hls5, hb5⟩
  have HB5 : Hid (Below W2.heap.size W2 W5) := HB4.out.trans (hb5.mono HB4.out.size)
  obtain ⟨D, eD⟩ : ∃ D, D = S.sortL D4 := ⟨_, rfl⟩
  have hup := S.sortL_ups D4 D4.length (Nat.le_refl _)
  have hsl := S.sortL_length D4 D4.length (Nat.le_refl _)
  rw [List.take_length, ← eD] at hup hsl
  rw [← eD] at hB5 hls5
  have HAl : Hid (D.flatMap (ofR R) = R) := all_nodes HSr.out D (hup.1.imp fun h => by unfold ltS; rw [decide_eq_true_eq]; exact h) (fun s => (hup.2 s).trans (HD4.out.2 s))
  have HDl : Hid (D.length ≤ 4096) := Nat.le_trans hsl HD4.out.1
  obtain ⟨b3, eb3⟩ : ∃ b, b = W1.heap.size := ⟨_, rfl⟩
  rw [← eb3] at HO HSz ⊢
  obtain ⟨S5, eS5⟩ : ∃ S5 : Nat → Prop, S5 = fun k => k < W5.heap.size ∧ k ≠ b3 ∧ k ≠ w.heap.size + 1 := ⟨_, rfl⟩
  have HSl : Hid (∀ k, S5 k → k < W5.heap.size) := fun k hk => by (rw [eS5] at hk; exact hk.1)
  have HS2 : Hid (W2.heap.size ≤ W4.heap.size) := HB4.out.size
  have HOl : Hid (b3 < W2.heap.size) := HO.out.lt
  have HSq := rise_seq (14 - 1) (by omega) Bs c5 S5 a5 D W5 (by rw [eS5]; have := HOl.out; have := HS2.out; have := HSz.out; exact ⟨hB5.lt, by omega, by omega⟩) HSl.out (hB5.cell 0 _ rfl) (hls5.mono fun k hk => by rw [eS5]; have := HOl.out; have := HS2.out; have := HSz.out; exact ⟨hk.2, by omega, by omega⟩) (by have := HDl.out; omega)
  have HF5 : Hid (∀ k, F k → S5 k) := fun k hk => by (rw [eS5]; have h1 := HFl.out k hk; have := HSz.out; have := HOl.out; have := HB5.out.size; exact ⟨by omega, by omega, by omega⟩)
  have HX5 : Hid (BxC w.heap.size [.pointer (some ⟨rb, 0, none⟩)] 31 W5) := HX2.out.below HB5.out
  have HR5 : Hid (RegIs F W5 rb R B mh mn E) := HR2.out.below HB5.out
  have HSx : Hid (S5 w.heap.size) := (by have h1 := HX5.out.lt; have := HSz.out; show S5 _; rw [eS5]; exact ⟨h1, by omega, by omega⟩)
  have HA0 : Hid (ColB rgCells 7 25 30 w W5 b3 S5 (.slice (some ⟨w.heap.size + 1, 0, none⟩) 0 R.length) ((D.take 0).flatMap (ofR R)) W5) := (by have h1 := HSz.out; have h2 := HOl.out; have h3 := HB5.out.size; exact ⟨HO.out.below HB5.out, HOw.out.below HB5.out, HB2.out.trans (HB5.out.mono HB2.out.size), KeepsS.refl _ _, HSl.out, by omega, by omega, fun hk => by (rw [eS5] at hk; exact hk.2.1 rfl), fun k e hk => by (rw [eS5] at hk; cases e; exact hk.2.2 rfl)⟩)
  have HBig : Hid (b3 < W5.heap.size) := (by have h2 := HOl.out; have h3 := HB5.out.size; show _ < _; omega)
  have HNV : Hid (RegV F W5 (.pointer (some ⟨rb, 0, none⟩)) R) := .inl ⟨rb, rfl, B, mh, mn, E, HR5.out, HNm.out, hl⟩
  obtain ⟨bx, ebx⟩ : ∃ b, b = w.heap.size := ⟨_, rfl⟩
  have HX : Hid (BxC bx [.pointer (some ⟨rb, 0, none⟩)] 31 W5) := by rw [ebx]; exact HX5.out
  have HSb : Hid (S5 bx) := by rw [ebx]; exact HSx.out
  rw [← ebx]
  clear eD hB5 hls5 hb5 hlo5 hup hsl eb3 eS5 ebx HX5 HSx HO HOw HB2 HX2 HR2 HB4 HV4 HD4 HEl HB5 HS2 HSz
  gi_wp2
  refine range_ofH (by decide) (gf := 49) (lb := #[.pointer (some ⟨Bs, 0, none⟩)]) rfl (enters_of Try.func49 (by kernel_rfl) rfl) HSq KeepsS.trans (keepsSK_b HSl.out) (Below.refl _ _) (fun _ => rfl)
    (fun k W => ∃ ov, ColB rgCells 7 25 30 w W5 b3 S5 ov ((D.take k).flatMap (ofR R)) W) (fun _ _ _ => False)
    (fun k A B row ⟨ov, h1⟩ hg hr => ⟨ov, h1.grown hg hr⟩) (fun c k A B row hf _ _ => hf) ⟨_, HA0.out⟩
    (fun x a' W => ∃ Bx, W5.heap.size ≤ Bx ∧ BxC Bx (stCells x) 23 W ∧ ∃ u2 u5 u6 u7 u8 u9 u10 u11 u12 u13 u14 u15 u16 u17 u18 u19 u20 u21 u22 u23 u24 u25 u26 u27 u28 u29 u30 : Value, a' = { tmps := #[.pointer (some ⟨rb, 0, none⟩), .pointer (some ⟨bx, 0, none⟩), u2, .pointer (some ⟨b3, 0, none⟩), .pointer (some ⟨Bx, 0, none⟩), u5, u6, u7, u8, u9, u10, u11, u12, u13, u14, u15, u16, u17, u18, u19, u20, u21, u22, u23, u24, u25, u26, u27, u28, u29, u30], defers := [] })
    (fun x a' u A B row ⟨Bx, h1, h2, h5⟩ hg hr => ⟨Bx, h1, row_own h2 hg (fun r e => (hr r e).2), h5⟩)
    ?assign ?body ?done ?stop
  case assign =>
    rintro l k hk Wa K ⟨ov, hA⟩ hK
    obtain ⟨x, hx⟩ : ∃ x, x = D[k] := ⟨_, rfl⟩
    rw [← hx] at hK ⊢
    clear hx
    have hb : Below Wa.heap.size Wa (Wa.alloc (.cells (stCells x).toArray 23)) := (Below.refl _ _).alloc (Nat.le_refl _) _
    have HFin : Hid (∀ a', (∃ u2 u5 u6 u7 u8 u9 u10 u11 u12 u13 u14 u15 u16 u17 u18 u19 u20 u21 u22 u23 u24 u25 u26 u27 u28 u29 u30 : Value, a' = { tmps := #[.pointer (some ⟨rb, 0, none⟩), .pointer (some ⟨bx, 0, none⟩), u2, .pointer (some ⟨b3, 0, none⟩), .pointer (some ⟨Wa.heap.size, 0, none⟩), u5, u6, u7, u8, u9, u10, u11, u12, u13, u14, u15, u16, u17, u18, u19, u20, u21, u22, u23, u24, u25, u26, u27, u28, u29, u30], defers := [] }) → K a' (Wa.alloc (.cells (stCells x).toArray 23))) := fun a' e5 => hK a' (Wa.alloc (.cells (stCells x).toArray 23)) (keepsFrom_below hb) (KeepsS.of_below hb (fun j hj => Nat.lt_of_lt_of_le (HSl.out j hj) hA.size)) ⟨ov, hA.below hb⟩ ⟨Wa.heap.size, hA.size, BxC.new _ _ _, e5⟩
    clear hK hb hA
    simp only [encT]
    gi_wp2
    exact HFin.out _ ⟨_, _, _, _, _, _, _, _, _, _, _, _, _, _, _, _, _, _, _, _, _, _, _, _, _, _, _, rfl⟩
  case body =>
    rintro l k hk a' Wb hlD ⟨r0, hr0⟩ ⟨ov, hA⟩ ⟨Bx4, hx1, hx2, u2, u5, u6, u7, u8, u9, u10, u11, u12, u13, u14, u15, u16, u17, u18, u19, u20, u21, u22, u23, u24, u25, u26, u27, u28, u29, u30, rfl⟩
    obtain ⟨x, hx⟩ : ∃ x, x = D[k] := ⟨_, rfl⟩
    rw [← hx] at hx2
    have HTk : Hid ((D.take (k + 1)).flatMap (ofR R) = (D.take k).flatMap (ofR R) ++ ofR R x) := by (show _ = _; rw [List.take_succ_eq_append_getElem hk, List.flatMap_append, ← hx]; simp)
    have HEl : Hid (((D.take k).flatMap (ofR R)).length + (ofR R x).length ≤ 4096) := (by
      have h1 : ((D.take (k + 1)).flatMap (ofR R)).length ≤ R.length := by
        have h2 : (D.flatMap (ofR R)) = (D.take (k + 1)).flatMap (ofR R) ++ (D.drop (k + 1)).flatMap (ofR R) := by rw [← List.flatMap_append, List.take_append_drop]
        have h3 := congrArg List.length h2
        rw [HAl.out, List.length_append] at h3
        omega
      rw [HTk.out, List.length_append] at h1
      show _ ≤ _
      omega)
    obtain ⟨Ek, eEk⟩ : ∃ Ek, Ek = (D.take k).flatMap (ofR R) := ⟨_, rfl⟩
    rw [← eEk] at hA HTk HEl
    clear eEk hx
    have HA : Hid (ColB rgCells 7 25 30 w W5 b3 S5 ov (Ek) Wb) := hA
    have HVb : Hid (RegV F Wb (.pointer (some ⟨rb, 0, none⟩)) R) := HNV.out.keep ⟨hA.kp.1, fun j hj => hA.kp.2 j (HF5.out j hj)⟩
    have HXb : Hid (BxC bx [.pointer (some ⟨rb, 0, none⟩)] 31 Wb) := HX.out.keep (hA.kp.2 bx HSb.out)
    have HLp : Hid (Wb.heap[l]? = some (.loop r0)) := hr0
    have p0 := HXb.out.cell 0 _ rfl
    have y0 := hx2.cell 0 _ rfl
    have y1 := hx2.cell 1 _ rfl
    clear hA hr0 hx2 hx1
    gi_wp2_with fail
    refine ⟨trivial, (callsIn_wide.2 (of_any _ x Wb ⟨_, rfl⟩)).mono ?_⟩
    rintro e Wi ⟨rfl, eWi⟩
    have hbi : Below Wb.heap.size Wb Wi := by rw [eWi]; exact ((Below.refl _ _).alloc (Nat.le_refl _) _).alloc (by simp) _
    have HY : Hid (BxC Wb.heap.size [.pointer (some ⟨rb, 0, none⟩)] 31 Wi ∧ BxC (Wb.heap.size + 1) (stCells x) 23 Wi) := by rw [eWi]; exact BxC.new2 Wb _ _ _ _
    clear eWi
    have HAi : Hid (ColB rgCells 7 25 30 w W5 b3 S5 ov (Ek) Wi) := HA.out.below hbi
    have HVi : Hid (RegV F Wi (.pointer (some ⟨rb, 0, none⟩)) R) := HVb.out.below hbi
    have HLi : Hid (Wi.heap[l]? = some (.loop r0)) := (hbi.block l (Array.getElem?_eq_some_iff.1 HLp.out).1).trans HLp.out
    have HKi : Hid (KeepsFrom W5.heap.size Wb Wi ∧ KeepsS S5 Wb Wi) := ⟨keepsFrom_below hbi, KeepsS.of_below hbi (fun j hj => Nat.lt_of_lt_of_le (HSl.out j hj) HA.out.size)⟩
    have HWs : Hid (W5.heap.size ≤ Wb.heap.size ∧ Wb.heap.size + 1 < Wi.heap.size) := ⟨HA.out.size, HY.out.2.lt⟩
    have HOv : Hid (∀ k, ov.ownBlock = some k → k < Wb.heap.size) := fun k e => (HA.out.own.lt k e).2
    obtain ⟨S2, eS2⟩ : ∃ S2 : Nat → Prop, S2 = fun k => S5 k ∨ k = Wb.heap.size ∨ k = Wb.heap.size + 1 := ⟨_, rfl⟩
    have HS2 : Hid ((∀ k, S5 k → S2 k) ∧ S2 Wb.heap.size ∧ S2 (Wb.heap.size + 1) ∧ ∀ k, S2 k → k < Wi.heap.size) := (by
      have h1 := HWs.out
      refine ⟨fun k hk => by rw [eS2]; exact .inl hk, by rw [eS2]; exact .inr (.inl rfl), by rw [eS2]; exact .inr (.inr rfl), fun k hk => ?_⟩
      rw [eS2] at hk
      rcases hk with hk | hk | hk
      · have := HSl.out k hk; omega
      · omega
      · omega)
    have HC0 : Hid (ColB rgCells 7 25 30 w Wi b3 S2 ov (Ek) Wi) := HAi.out.inn HS2.out.2.2.2 (fun hk => by
      have h1 := HWs.out
      have h2 := HBig.out
      rw [eS2] at hk
      rcases hk with hk | hk | hk
      · exact HAi.out.b3 hk
      · omega
      · omega) (fun j e hk => by
      have h3 := HOv.out j e
      rw [eS2] at hk
      rcases hk with hk | hk | hk
      · exact HAi.out.vs j e hk
      · omega
      · omega)
    have HSq2 := of_seq (14 - 1 - 1 - 1) (by omega) Wb.heap.size (Wb.heap.size + 1) F S2 x R (.pointer (some ⟨rb, 0, none⟩)) Wi HY.out.1 HY.out.2 HVi.out HS2.out.2.1 HS2.out.2.2.1 (fun k hk => HS2.out.1 k (HF5.out k hk)) HS2.out.2.2.2
    have HSn : Hid (Wb.heap.size ≤ Wi.heap.size) := hbi.size
    clear eS2 hbi p0 y0 y1 HOv HY HLp HXb HVb HVi
    obtain ⟨Q, eQ⟩ : ∃ Q, Q = ofR R x := ⟨_, rfl⟩
    rw [← eQ] at HSq2 HTk HEl
    clear eQ
    gi_wp2
    refine range_ofN HLi.out (by decide) (gf := 52) (lb := #[.pointer (some ⟨Wb.heap.size, 0, none⟩), .pointer (some ⟨Wb.heap.size + 1, 0, none⟩)]) rfl (enters_of Try.func52 (by kernel_rfl) rfl) HSq2 KpO.trans (KpO.loop HS2.out.2.2.2) (Below.refl _ _) (fun _ => rfl)
      (fun j W => (∃ ov, ColB rgCells 7 25 30 w Wi b3 S2 ov (Ek ++ Q.take j) W) ∧ KeepsFrom W5.heap.size Wb W)
      (fun k A B row ⟨⟨ov, h1⟩, h2⟩ hg hr => ⟨⟨ov, h1.grown hg hr⟩, KeepsFrom.grown h2 hg (fun r e => Nat.le_trans HSn.out (hr r e).1)⟩) ⟨⟨ov, by rw [List.take_zero, List.append_nil]; exact HC0.out⟩, HKi.out.1⟩
      (fun x a' W => ∃ Bx, Wi.heap.size ≤ Bx ∧ BxC Bx (rgCells x) 25 W ∧ ∃ u0 u1 u2 u4 u6 u7 u8 u9 u10 u11 u12 u13 u14 u15 u16 u17 u18 u19 u20 u21 u22 u23 u24 u25 u26 u27 u28 u29 u30 : Value, a' = { tmps := #[u0, u1, u2, .pointer (some ⟨b3, 0, none⟩), u4, .pointer (some ⟨Bx, 0, none⟩), u6, u7, u8, u9, u10, u11, u12, u13, u14, u15, u16, u17, u18, u19, u20, u21, u22, u23, u24, u25, u26, u27, u28, u29, u30], defers := [] })
      (fun x a' u A B row ⟨Bx, h1, h2, h5⟩ hg hr => ⟨Bx, h1, row_own h2 hg (fun r e => (hr r e).2), h5⟩)
      ?assign2 ?body2 ?done2
    case assign2 =>
      rintro l k hk Wa K ⟨⟨ov, hA⟩, hKf⟩ hK
      obtain ⟨z, hz⟩ : ∃ z, z = Q[k] := ⟨_, rfl⟩
      rw [← hz] at hK ⊢
      clear hz
      have hb : Below Wa.heap.size Wa (Wa.alloc (.cells (rgCells z).toArray 25)) := (Below.refl _ _).alloc (Nat.le_refl _) _
      have HFin : Hid (∀ a', (∃ u0 u1 u2 u4 u6 u7 u8 u9 u10 u11 u12 u13 u14 u15 u16 u17 u18 u19 u20 u21 u22 u23 u24 u25 u26 u27 u28 u29 u30 : Value, a' = { tmps := #[u0, u1, u2, .pointer (some ⟨b3, 0, none⟩), u4, .pointer (some ⟨Wa.heap.size, 0, none⟩), u6, u7, u8, u9, u10, u11, u12, u13, u14, u15, u16, u17, u18, u19, u20, u21, u22, u23, u24, u25, u26, u27, u28, u29, u30], defers := [] }) → K a' (Wa.alloc (.cells (rgCells z).toArray 25))) := fun a' e5 => hK a' (Wa.alloc (.cells (rgCells z).toArray 25)) (keepsFrom_below hb) (KpO.below hb (fun j hj => Nat.lt_of_lt_of_le (HS2.out.2.2.2 j hj) hA.size)) ⟨⟨ov, hA.below hb⟩, hKf.trans (keepsFrom_below hb)⟩ ⟨Wa.heap.size, hA.size, BxC.new _ _ _, e5⟩
      clear hK hb hA hKf
      simp only [encR]
      gi_wp2
      exact HFin.out _ ⟨_, _, _, _, _, _, _, _, _, _, _, _, _, _, _, _, _, _, _, _, _, _, _, _, _, _, _, _, _, rfl⟩
    case body2 =>
      rintro l j hj a' Wc hlD ⟨⟨ov, hA⟩, hKf⟩ ⟨Bx, hx1, hx2, u0, u1, u2, u4, u6, u7, u8, u9, u10, u11, u12, u13, u14, u15, u16, u17, u18, u19, u20, u21, u22, u23, u24, u25, u26, u27, u28, u29, u30, rfl⟩
      obtain ⟨x, hx⟩ : ∃ x, x = Q[j] := ⟨_, rfl⟩
      rw [← hx] at hx2
      have HTj : Hid (Ek ++ Q.take (j + 1) = (Ek ++ Q.take j) ++ [x]) := by (show _ = _; rw [List.take_succ_eq_append_getElem hj, ← hx, List.append_assoc])
      have hTl : (Ek ++ Q.take j).length ≤ 4096 := (by have := HEl.out; rw [List.length_append, List.length_take]; omega)
      obtain ⟨E9, eE9⟩ : ∃ E9, E9 = Ek ++ Q.take j := ⟨_, rfl⟩
      rw [← eE9] at hA HTj hTl
      clear eE9 hx
      obtain ⟨aw, cw, eo⟩ := hA.own.form
      subst eo
      have HA : Hid (ColB rgCells 7 25 30 w Wi b3 S2 (.slice aw E9.length cw) (E9) Wc) := hA
      have HKf : Hid (KeepsFrom W5.heap.size Wb Wc) := hKf
      clear hA hKf
      have xo := HA.out.box.cell 0 _ rfl
      have k_0 : Wc.cell? ⟨Bx, 0, none⟩ = some (.int .i64 x.nd.1) := hx2.cell 0 _ rfl
      have k_1 : Wc.cell? ⟨Bx, 1, none⟩ = some (.int .i64 x.nd.2) := hx2.cell 1 _ rfl
      have k_2 : Wc.cell? ⟨Bx, 2, none⟩ = some (.string x.nm) := hx2.cell 2 _ rfl
      have k_3 : Wc.cell? ⟨Bx, 3, none⟩ = some (.int .i64 x.at_.1) := hx2.cell 3 _ rfl
      have k_4 : Wc.cell? ⟨Bx, 4, none⟩ = some (.int .i64 x.at_.2) := hx2.cell 4 _ rfl
      have k_5 : Wc.cell? ⟨Bx, 5, none⟩ = some (.string x.vl) := hx2.cell 5 _ rfl
      have k_6 : Wc.cell? ⟨Bx, 6, none⟩ = some (.bool x.gn) := hx2.cell 6 _ rfl
      clear hx2
      have hal : Below Wc.heap.size Wc (Wc.alloc (.cells #[.int .i64 x.nd.1, .int .i64 x.nd.2, .string x.nm, .int .i64 x.at_.1, .int .i64 x.at_.2, .string x.vl, .bool x.gn] 25)) := (Below.refl _ _).alloc (Nat.le_refl _) _
      have HAa : Hid (ColB rgCells 7 25 30 w Wi b3 S2 (.slice aw E9.length cw) (E9) (Wc.alloc (.cells #[.int .i64 x.nd.1, .int .i64 x.nd.2, .string x.nm, .int .i64 x.at_.1, .int .i64 x.at_.2, .string x.vl, .bool x.gn] 25))) := HA.out.below hal
      have HKa : Hid ((∀ B, KeepsFrom B Wc (Wc.alloc (.cells #[.int .i64 x.nd.1, .int .i64 x.nd.2, .string x.nm, .int .i64 x.at_.1, .int .i64 x.at_.2, .string x.vl, .bool x.gn] 25))) ∧ KpO S2 Wc (Wc.alloc (.cells #[.int .i64 x.nd.1, .int .i64 x.nd.2, .string x.nm, .int .i64 x.at_.1, .int .i64 x.at_.2, .string x.vl, .bool x.gn] 25))) := ⟨fun B => keepsFrom_below hal, KpO.below hal (fun j hj => Nat.lt_of_lt_of_le (HA.out.kl j hj) HA.out.size)⟩
      have HNw : Hid (∀ j u, ([.int .i64 x.nd.1, .int .i64 x.nd.2, .string x.nm, .int .i64 x.at_.1, .int .i64 x.at_.2, .string x.vl, .bool x.gn] : List Value)[j]? = some u → (Wc.alloc (.cells #[.int .i64 x.nd.1, .int .i64 x.nd.2, .string x.nm, .int .i64 x.at_.1, .int .i64 x.at_.2, .string x.vl, .bool x.gn] 25)).cell? ((⟨Wc.heap.size, 0, none⟩ : Addr).add j) = some u) := fun j u hj => by
        rw [Addr.add_lit, cell_of_row _ _ _ _ _ _ (heap_alloc_new Wc _)]
        simpa using hj
      have hsz : w.heap.size ≤ (Wc.alloc (.cells #[.int .i64 x.nd.1, .int .i64 x.nd.2, .string x.nm, .int .i64 x.at_.1, .int .i64 x.at_.2, .string x.vl, .bool x.gn] 25)).heap.size := HAa.out.bel.size
      clear hal
      gi_wp2_with (gi_at_builtin; refine wpListIn_append_own_at _ rfl _ _ 30 rfl w.heap.size 25 irg (.agg #[.int .i64 0, .int .i64 0, .string ⟨#[]⟩, .int .i64 0, .int .i64 0, .string ⟨#[]⟩, .bool false]) 7 72 Try.underlying30 hirg hz0rg hz1rg hz2rg rfl (by decide) _ _ _ rfl HAa.out.own ⟨Wc.heap.size, 0, none⟩ 1 1 [.int .i64 x.nd.1, .int .i64 x.nd.2, .string x.nm, .int .i64 x.at_.1, .int .i64 x.at_.2, .string x.vl, .bool x.gn] rfl rfl HNw.out (rgCells_one x) (by unfold maxLen; omega) (by omega) hsz ?_; intro v3 w3 hown3 hgrow3 hat3; obtain ⟨g3, c3, e3⟩ : ∃ g c, v3 = .slice (some ⟨g, 0, none⟩) (E9.length + 1) c := (ownsRow_succ hown3); subst e3; have HP3 := hide7 (HAa.out.push (by decide) (x := x) hown3 hgrow3 hat3); have xo3 := HP3.out.2.1.cell 0 _ rfl; have xf3 := HP3.out.2.1.free 0; clear hown3 hgrow3 hat3)
      exact ⟨(HKa.out.1 _).trans (HP3.out.2.2.1 _), HKa.out.2.trans ⟨HP3.out.2.2.2.1, HP3.out.2.2.2.2.1 _ (by decide) (by decide)⟩, ⟨_, by rw [HTj.out]; exact HP3.out.1⟩, HKf.out.trans ((HKa.out.1 _).trans (HP3.out.2.2.1 _))⟩
    case done2 =>
      rintro Wd ⟨⟨ov9, hA9⟩, hKf⟩
      rw [List.take_length] at hA9
      have hO9 := HAi.out.outw hA9 HS2.out.1
      exact ⟨hKf, HKi.out.2.trans ⟨hA9.kp.1, fun k hk => hA9.kp.2 k (HS2.out.1 k hk)⟩, ov9, by rw [HTk.out]; exact hO9⟩
  case done =>
    rintro Dd Wd hDd ⟨ov, hA⟩ hDf
    rw [List.take_length, HAl.out] at hA
    obtain ⟨a9, c9, e9⟩ := hA.own.form
    subst e9
    have HI : Hid (ColB rgCells 7 25 30 w W5 b3 S5 (.slice a9 R.length c9) (R) Wd) := hA
    have HDf : Hid (Wd.heap[Dd]? = some (.deferred (some []))) := hDf
    have x1 := hA.box.cell 0 _ rfl
    clear hA hDf
    gi_wp2
    refine ⟨by simp, .inl ⟨_, _, rfl, run_takeDeferred HDf.out, ?_⟩⟩
    have hgp : Wd.grownBy (Wd.putObj Dd (.deferred none)) (some Dd) := grownBy_putObj' Wd Dd (.deferred none)
    have hE2 := HI.out.grown hgp (fun r e => by cases e; exact ⟨hDd, _, HDf.out, rfl⟩)
    exact ⟨_, results_tmp rfl _ _ _, .slice a9 R.length c9, rfl, hE2.own, hE2.bel⟩
  case stop => rintro D c k W hD hk hf; exact hf.elim

theorem all_v (F : Nat → Prop) (v : Value) (R : List Rg) (w : World) (h : RegV F w v R) :
    Calls Try.prog 18 #[v] w fun e w' => ∃ u, e = .returned u ∧ OwnRg w.heap.size w' u R ∧ Below w.heap.size w w' := by
  rcases h with ⟨rb, rfl, h⟩ | ⟨rfl, rfl⟩
  · exact all_ok F rb R w h
  · go_enter Try.func18, Try.ntmps18
    go_wp2
    go_ret
    exact ⟨_, rfl, OwnE.nil0 _ _, (Below.refl _ _).alloc (Nat.le_refl _) _⟩

end Go.Proofs.Ytoljacnipkibiaa
