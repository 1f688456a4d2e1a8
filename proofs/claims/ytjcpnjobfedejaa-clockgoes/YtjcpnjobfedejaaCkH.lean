/- What hasMore and Compare do; the document's Compare; the walk of ClockCompares. -/
import Derived.Test.YtjcpnjobfedejaaCkG
import Derived.Test.YtjcpnjobfedejaaCkN
import Derived.Test.YtjcpnjobfedejaaCkW
namespace Go.Proofs.Ytjcpnjobfedejaa
open Go.RowKit Go.Shelf
set_option linter.unusedVariables false

attribute [local go_sem] Oper.semAt_some

theorem results_boolCell {fn : Func} (hr : fn.results = #[.cell 4 4]) (tmps : Array Value) (R : Nat) (w : World) (b : Bool) (hp : tmps.getD 4 undef = .pointer (some ⟨R, 0, none⟩)) (hc : w.cell? ⟨R, 0, none⟩ = some (.bool b)) : (results fn tmps).run Try.prog w = .ok (.bool b) w := by
  have hp' : tmps[4]?.getD undef = .pointer (some ⟨R, 0, none⟩) := by simpa using hp
  simp [results, hr, hp', asAddr, loadVar, isAgg, run_underlying Try.underlying4, load, go_sem]
  simp [Sem.run, hc]

/-- Two lists in boxes, behind a box of the caller's. -/
theorem rowIn_of {w W : World} {a : Option Addr} {d : List Int} (S : Nat → Prop) (hr : d = [] ∨ ∃ b o, a = some ⟨b, o, none⟩ ∧ IntsAt w b o d) (hb : Below w.heap.size w W) (hS : ∀ k, k < w.heap.size → S k) : RowIn S W a d := by
  by_cases hd : d = []
  · exact .inl hd
  · obtain ⟨b, o, e, g⟩ := hr.resolve_left hd
    exact .inr ⟨b, o, e, hS b (g.lt hd), g.below hb⟩

set_option maxHeartbeats 4000000 in
set_option maxRecDepth 100000 in
theorem hasMore_in (n : Nat) (hn : 4 ≤ n) (v1 v2 : Value) (d1 d2 : List Int) (w : World) (h1 : IsI w v1 d1) (h2 : IsI w v2 d2) (hk1 : OkC d1) (hk2 : OkC d2) :
    CallsIn Fence.wide n Try.prog 29 #[v1, v2] w fun e w' => e = .returned (.bool (!underB d1 d2)) ∧ Below w.heap.size w w' := by
  have hro : Fence.wide.round = none := rfl
  have h1n : 1 ≤ n := by omega
  obtain ⟨a1, c1, rfl, hc1, hl1, r1⟩ := h1
  obtain ⟨a2, c2, rfl, hc2, hl2, r2⟩ := h2
  have HR1 : Hid (d1 = [] ∨ ∃ b o, a1 = some ⟨b, o, none⟩ ∧ IntsAt w b o d1) := r1
  have HR2 : Hid (d2 = [] ∨ ∃ b o, a2 = some ⟨b, o, none⟩ ∧ IntsAt w b o d2) := r2
  clear r1 r2
  refine callsIn_of_wp_marks Try.func29 rfl trivial ?_ hro
  simp only [Try.ntmps29, List.size_toArray, List.length_cons, List.length_nil, Nat.reduceAdd, Nat.reduceSub, Array.replicate_succ, Array.replicate_zero, List.push_toArray, List.append_toArray, List.nil_append, List.cons_append]
  gi_wp2_with (refine ⟨trivial, ?_⟩; gi_at_call 31; refine (callsIn_wide.2 (gaps_any _ _ _ _ _ _ _)).mono ?_; rintro e w2 ⟨rfl, rfl⟩)
  have bO0 : Boxed (((w.alloc (.cells #[.bool false] 4)).alloc (.cells #[.slice a1 d1.length c1] 22)).alloc (.cells #[.slice a2 d2.length c2] 22)) w.heap.size 4 (.bool false) := ((Boxed.new w 4 (.bool false)).alloc _).alloc _
  have b10 : Boxed (((w.alloc (.cells #[.bool false] 4)).alloc (.cells #[.slice a1 d1.length c1] 22)).alloc (.cells #[.slice a2 d2.length c2] 22)) (w.heap.size + 1) 22 (.slice a1 d1.length c1) := by
    have := (Boxed.new (w.alloc (.cells #[.bool false] 4)) 22 (.slice a1 d1.length c1)).alloc (.cells #[.slice a2 d2.length c2] 22)
    simpa using this
  have b20 : Boxed (((w.alloc (.cells #[.bool false] 4)).alloc (.cells #[.slice a1 d1.length c1] 22)).alloc (.cells #[.slice a2 d2.length c2] 22)) (w.heap.size + 1 + 1) 22 (.slice a2 d2.length c2) := by
    have := Boxed.new ((w.alloc (.cells #[.bool false] 4)).alloc (.cells #[.slice a1 d1.length c1] 22)) 22 (.slice a2 d2.length c2)
    simpa using this
  have bel0 : Below w.heap.size w (((w.alloc (.cells #[.bool false] 4)).alloc (.cells #[.slice a1 d1.length c1] 22)).alloc (.cells #[.slice a2 d2.length c2] 22)) := (((Below.refl _ _).alloc (Nat.le_refl _) _).alloc (by simp) _).alloc (by simp; omega) _
  have z0 : (((w.alloc (.cells #[.bool false] 4)).alloc (.cells #[.slice a1 d1.length c1] 22)).alloc (.cells #[.slice a2 d2.length c2] 22)).heap.size = w.heap.size + 3 := by simp
  obtain ⟨W0, hW0⟩ : ∃ W0, ((w.alloc (.cells #[.bool false] 4)).alloc (.cells #[.slice a1 d1.length c1] 22)).alloc (.cells #[.slice a2 d2.length c2] 22) = W0 := ⟨_, rfl⟩
  rw [hW0] at bO0 b10 b20 bel0 z0 ⊢
  clear hW0
  obtain ⟨S, hS⟩ : ∃ S : Nat → Prop, ∀ k, S k ↔ (k < w.heap.size ∨ k = w.heap.size + 1 ∨ k = w.heap.size + 1 + 1) := ⟨_, fun _ => Iff.rfl⟩
  have HSn : Hid (∀ k, S k → k < W0.heap.size) := fun k hk => by have := (hS k).1 hk; omega
  have HSO : Hid (¬ S w.heap.size) := fun hk => by have := (hS _).1 hk; omega
  have HST : Hid (SeqStopsK Fence.wide (n - 1) Try.prog 33 #[.pointer (some ⟨w.heap.size + 1, 0, none⟩), .pointer (some ⟨w.heap.size + 1 + 1, 0, none⟩)] encG (KeepsS S) (fun ys => ys = gapsL d1 d2) (fun pre => pre <+: gapsL d1 d2) (gapsL d1 d2).length W0) :=
    gaps_stops (n - 1) (by omega) _ _ c1 c2 S a1 a2 d1 d2 hk1 hk2 hc1 hc2 ((hS _).2 (by omega)) ((hS _).2 (by omega)) W0 HSn.out b10.cell b20.cell (rowIn_of S HR1.out bel0 fun k hk => (hS k).2 (.inl hk)) (rowIn_of S HR2.out bel0 fun k hk => (hS k).2 (.inl hk))
  clear hS b10 b20 HR1 HR2
  refine wpIn_rangeFunc_ownH hro h1n (gf := 33) (lb := #[.pointer (some ⟨w.heap.size + 1, 0, none⟩), .pointer (some ⟨w.heap.size + 1 + 1, 0, none⟩)]) rfl trivial (enters_of Try.func33 (by kernel_rfl) rfl)
    HST.out KeepsS.trans (keepsSK_b HSn.out) (Below.refl _ _) (fun _ => rfl)
    (fun pre W => (pre = [] ∧ Boxed W w.heap.size 4 (.bool false)) ∧ Below w.heap.size w W)
    (fun c pre W => (c = .ret ∧ pre ≠ [] ∧ Boxed W w.heap.size 4 (.bool true)) ∧ Below w.heap.size w W)
    (OwnFrom.and (OwnFrom.and (ownFrom_pure _ _) (Own.from (boxed_own _ _ _) _)) (ownFrom_below (Nat.le_refl _) (by omega)))
    (fun c => OwnFrom.and (OwnFrom.and (ownFrom_pure _ _) (OwnFrom.and (ownFrom_pure _ _) (Own.from (boxed_own _ _ _) _))) (ownFrom_below (Nat.le_refl _) (by omega)))
    ⟨⟨rfl, bO0⟩, bel0⟩
    (fun x a' W => a' = { tmps := #[.slice a1 d1.length c1, .slice a2 d2.length c2, undef, undef, .pointer (some ⟨w.heap.size, 0, none⟩), .slice a1 d1.length c1, .slice a2 d2.length c2, .func (.func 33) #[] #[.pointer (some ⟨w.heap.size + 1, 0, none⟩), .pointer (some ⟨w.heap.size + 1 + 1, 0, none⟩)], .agg #[.int .i64 x.1, .int .i64 x.2.1, .int .i64 x.2.2]], defers := [] })
    (fun x a' _ X Y row hs hg hr => hs)
    ?assign ?body ?done ?stop
  case assign =>
    rintro l pre x W K ⟨⟨rfl, bO⟩, hB⟩ hK
    simp only [encG]
    gi_wp2
    exact hK _ _ ((KeepsOthers.refl _).from _) (KeepsS.refl _ _) ⟨⟨trivial, bO⟩, hB⟩ rfl
  case body =>
    rintro l pre x a' W hl ⟨r, hr⟩ ⟨⟨rfl, bO⟩, hB⟩ rfl hlt
    have cO := bO.cell
    have fO := bO.frozen
    gi_wp2
    exact ⟨(KeepsOthers.setCell _ _ _).from _, ⟨rfl, by simp, bO.set _⟩, hB.setCell (p := ⟨w.heap.size, 0, none⟩) (Nat.le_refl _) _⟩
  case done =>
    rintro D ys W hD rfl ⟨⟨he, bO⟩, hB⟩ hK
    have hu : underB d1 d2 = true := (gaps_none d1 d2).1 he
    have cO := bO.cell
    have fO := bO.frozen
    have HU : Hid (underB d1 d2 = true) := hu
    clear he hu
    gi_wp2
    have hK2 : (W.setCell ⟨w.heap.size, 0, none⟩ (.bool false)).heap[D]? = some (.deferred (some [])) := (Below.heap_setCell _ _ _ _ (by show D ≠ w.heap.size; omega)).trans hK
    have b2 : Boxed ((W.setCell ⟨w.heap.size, 0, none⟩ (.bool false)).putObj D (.deferred none)) w.heap.size 4 (.bool false) := (bO.set _).kept (grownBy_putObj' _ D _) (by simp; omega)
    have bel2 := (hB.setCell (p := ⟨w.heap.size, 0, none⟩) (Nat.le_refl _) (.bool false)).trans (belowK_b (w := w) (Nat.le_refl _) _ D _ (.deferred none) (by omega) hK2 rfl rfl)
    refine ⟨by simp, .inl ⟨_, _, rfl, run_takeDeferred hK2, ?_⟩⟩
    exact ⟨_, results_boolCell rfl _ _ _ false rfl b2.cell, ret_b (by rw [HU.out]; rfl), bel2⟩
  case stop =>
    rintro D c pre W hD hSp ⟨⟨rfl, hne, bO⟩, hB⟩ hK
    have hu : underB d1 d2 = false := by
      cases e : underB d1 d2
      · rfl
      · rw [(gaps_none d1 d2).2 e] at hSp; exact absurd (List.prefix_nil.1 hSp) hne
    have HU : Hid (underB d1 d2 = false) := hu
    clear hu hSp
    gi_wp2
    have b2 : Boxed (W.putObj D (.deferred none)) w.heap.size 4 (.bool true) := bO.kept (grownBy_putObj' _ D _) (by simp; omega)
    have bel2 := hB.trans (belowK_b (w := w) (Nat.le_refl _) _ D _ (.deferred none) (by omega) hK rfl rfl)
    refine ⟨by simp, .inl ⟨_, _, rfl, run_takeDeferred hK, ?_⟩⟩
    exact ⟨_, results_boolCell rfl _ _ _ true rfl b2.cell, ret_b (by rw [HU.out]; rfl), bel2⟩

/-- clock.hasMore, of right clocks. -/
theorem hasMore_any (v1 v2 : Value) (d1 d2 : List Int) (w : World) (h1 : IsI w v1 d1) (h2 : IsI w v2 d2) (hk1 : OkC d1) (hk2 : OkC d2) :
    Calls Try.prog 29 #[v1, v2] w fun e w' => e = .returned (.bool (!underB d1 d2)) ∧ Below w.heap.size w w' :=
  callsIn_wide.1 (hasMore_in 4 (Nat.le_refl _) v1 v2 d1 d2 w h1 h2 hk1 hk2)

end Go.Proofs.Ytjcpnjobfedejaa
