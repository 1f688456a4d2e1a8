/- What a reader's Text does; what a nil reader's methods do; the program answers. -/
import Derived.Test.YtfjejobakknipaaOcD
import Derived.Laws.IdiomStrings
namespace Go.Proofs.Ytfjejobakknipaa
open Go.RowKit
set_option linter.unusedVariables false

/-- string(b). -/
theorem conv_txt {w : World} {v : Value} {p : List UInt8} (h : IsB w v p) : (convert 22 9 v).run Try.prog w = .ok (.string (txt p)) w := by
  obtain ⟨a, cap, rfl, hc, hl, r⟩ := h
  rcases r with rfl | ⟨b, o, rfl, hb⟩
  · rw [run_convert_bytes_string w _ _ _ _ _ _ Try.underlying22 Try.underlying5 Try.underlying9]
    cases a <;> simp [Conv.bytesToString, loadCells]
    all_goals rfl
  · exact run_convert_bytes_back (P := Try.prog) w _ _ _ ⟨b, o, none⟩ cap p Try.underlying22 Try.underlying5 Try.underlying9 (fun j hj => by rw [Addr.add_lit]; exact hb j hj)

theorem IsB.sub {w : World} {z : Option Addr} {q : List UInt8} {c : Nat} (h : IsB w (.slice z q.length c) q) (s n : Nat) (hn : s + n ≤ q.length) : IsB w (.slice (Option.map (fun x => x.add s) z) n (c - s)) ((q.drop s).take n) := by
  obtain ⟨a, cap, e, hc, hl, r⟩ := h
  cases e
  have hlen : ((q.drop s).take n).length = n := by rw [List.length_take, List.length_drop]; omega
  refine ⟨_, c - s, by rw [hlen], by rw [hlen]; omega, by rw [hlen]; omega, ?_⟩
  rcases r with rfl | ⟨b, o, rfl, hb⟩
  · exact .inl (by simp)
  · exact .inr ⟨b, o + s, by rw [Option.map_some, Addr.add_lit], (hb.drop s).take n⟩
theorem IsB.head {w : World} {z : Option Addr} {q : List UInt8} {c : Nat} (h : IsB w (.slice z q.length c) q) (n : Nat) (hn : n ≤ q.length) : IsB w (.slice z n c) (q.take n) := by
  obtain ⟨a, cap, e, hc, hl, r⟩ := h
  cases e
  have hlen : (q.take n).length = n := by rw [List.length_take]; omega
  refine ⟨z, c, by rw [hlen], by rw [hlen]; omega, by rw [hlen]; omega, ?_⟩
  rcases r with rfl | ⟨b, o, rfl, hb⟩
  · exact .inl (by simp)
  · exact .inr ⟨b, o, rfl, hb.take n⟩
theorem IsB.none0 {w : World} (z : Option Addr) (c : Nat) : IsB w (.slice z 0 c) [] := ⟨z, c, rfl, Nat.zero_le _, by simp, .inl rfl⟩
theorem RdIs.cut {L : Nat} {w : World} {g : Nat} {p : List UInt8} {k : Nat} {y : Int} (h : RdIs L w g p k y) (a : Option Addr) (cap : Nat) (hc : w.cell? ⟨g, 0, none⟩ = some (.slice a p.length cap)) (m i : Nat) (u : Value) :
    IsB ((w.drewN m).setCell ⟨g, i, none⟩ u) (.slice (cutA a cap k) (p.drop k).length (cap - k)) (p.drop k) := by
  obtain ⟨hk, hl⟩ := h.at_le
  obtain ⟨a', cap', h1, h2, h3, h4, h5, h6⟩ := h
  have c0 : w.cell? ⟨g, 0, none⟩ = some (.slice a' p.length cap') := by simp [World.cell?, h1]
  rw [c0] at hc
  injection hc with hc
  injection hc with e1 _ e2
  subst e1 e2
  refine ⟨_, cap' - k, rfl, by rw [List.length_drop]; omega, by rw [List.length_drop]; omega, ?_⟩
  rcases h6 with rfl | ⟨b, o, rfl, _, hne, hb⟩
  · exact .inl (by simp)
  · by_cases hk2 : cap' = k
    · exact .inl (List.drop_of_length_le (by omega))
    · exact .inr ⟨b, o + k, by simp only [cutA]; rw [if_neg hk2, Addr.add_lit], (hb.drop k).block ((Below.heap_setCell (w.drewN m) ⟨g, i, none⟩ u b hne).trans rfl)⟩

/-- What a Text makes of a reader that stands at k with the error y: the answer, the place, the error. -/
def rdT (p : List UInt8) (k : Nat) (y most : Int) : List UInt8 × Nat × Int :=
  if y = 0 then
    match cntL (p.drop k) most with
    | (n, s, e) => if e = 0 then (if p.length - k - s < n then ([], k, 2) else ((p.drop (k + s)).take n, k + s + n, 0)) else ([], k, e)
  else ([], k, y)

set_option maxRecDepth 100000 in
set_option maxHeartbeats 2000000 in
theorem text_rd (L g : Nat) (p : List UInt8) (k : Nat) (y most : Int) (w : World) (h : RdIs L w g p k y) :
    Calls Try.prog 21 #[.pointer (some ⟨g, 0, none⟩), .int .i64 most] w fun e w' => e = .returned (.string (txt (rdT p k y most).1)) ∧ RdIs L w' g p (rdT p k y most).2.1 (rdT p k y most).2.2 ∧ w.grownBy w' (some g) := by
  obtain ⟨hk, hl⟩ := h.at_le
  obtain ⟨a, cap, c0, c1, c2, hc, r⟩ := h.cells
  have H : Hid (RdIs L w g p k y) := h
  by_cases hy : y = 0
  · subst hy
    obtain ⟨n, s, e, hq⟩ : ∃ n s e, cntL (p.drop k) most = (n, s, e) := ⟨_, _, _, rfl⟩
    have hq2 := cntL_len (p := p.drop k) (most := most)
    rw [hq, List.length_drop] at hq2
    simp only at hq2
    obtain ⟨hs1, hn1, hs2⟩ := hq2
    have HRD : Hid (rdT p k 0 most = if e = 0 then (if p.length - k - s < n then ([], k, 2) else ((p.drop (k + s)).take n, k + s + n, 0)) else ([], k, e)) := by show _ = _; unfold rdT; rw [if_pos rfl, hq]
    have HC : Hid (∀ v m, IsB (w.drewN m) v (p.drop k) → Calls Try.prog 31 #[v, .int .i64 most] (w.drewN m) fun e' w' => e' = .returned (.tuple #[.int .i64 (n : Int), .int .i64 (s : Int), .int .i64 e]) ∧ w' = w.drewN m) := fun v m hb => by
      have := count_any v (p.drop k) most (w.drewN m) hb
      rw [hq] at this
      exact this
    have HR0 := h.rest a cap c0
    have HR : Hid ((a = none → p = [] ∧ k = 0) ∧ ∀ m, IsB (w.drewN m) (.slice (cutA a cap k) (p.length - k) (cap - k)) (p.drop k)) := HR0
    have k1 : (k : Int) ≤ (cap : Int) := by omega
    have f1 := h.free 1
    have f2 := h.free 2
    have HX : Hid (∀ m u, IsB ((w.drewN m).setCell ⟨g, 1, none⟩ u) (.slice (cutA a cap k) (p.drop k).length (cap - k)) (p.drop k)) := fun m u => h.cut a cap c0 m 1 u
    clear r h HR0 hq
    cases a with
    | none =>
      obtain ⟨rfl, rfl⟩ := HR.out.1 rfl
      obtain rfl : s = 0 := by simpa using hs1
      go_enter Try.func21, Try.ntmps21
      go_wp2_with (go_at_call 30; refine (readsNothing_any L g _ _ 0 _ H.out).mono ?_; rintro e w' ⟨rfl, hw⟩; replace hw := hw.symm; subst hw)
      go_quiet (fail)
      go_wp2_with fail
      refine (HC.out _ _ (IsB.non _)).mono ?_
      rintro e' w' ⟨rfl, rfl⟩
      by_cases he : e = 0
      · subst he
        by_cases hn : 0 < n
        · have HE : Hid (rdT [] 0 0 most = ([], 0, 2)) := by have h := HRD.out; rw [if_pos rfl, if_pos (by simpa using hn)] at h; exact h
          go_wp2
          go_ret
          refine ⟨by rw [HE.out]; rfl, ?_, ?_⟩
          · rw [HE.out]
            exact H.out.setWhy _ 2
          · exact grownBy.set _ _ _ _
        · obtain rfl : n = 0 := by omega
          have HE : Hid (rdT [] 0 0 most = ([], 0, 0)) := HRD.out
          have hcv : ∀ c m u, (convert 22 9 (.slice none 0 c)).run Try.prog ((w.drewN m).setCell ⟨g, 1, none⟩ u) = .ok (.string (txt [])) ((w.drewN m).setCell ⟨g, 1, none⟩ u) := fun c m u => conv_txt (IsB.non _)
          go_wp2
          go_ret
          refine ⟨by rw [HE.out]; rfl, ?_, ?_⟩
          · rw [HE.out]
            exact H.out.setAt _ 0 (Nat.zero_le _)
          · exact grownBy.set _ _ _ _
      · have HE : Hid (rdT [] 0 0 most = ([], 0, e)) := by have h := HRD.out; rw [if_neg he] at h; exact h
        have q : (e != 0) = true := by simp [he]
        have q2 : (e == 0) = false := by simp [he]
        clear he
        go_wp2
        go_ret
        refine ⟨by rw [HE.out]; rfl, ?_, ?_⟩
        · rw [HE.out]
          exact H.out.setWhy _ e
        · exact grownBy.set _ _ _ _
    | some ad =>
      go_enter Try.func21, Try.ntmps21
      go_wp2_with (go_at_call 30; refine (readsNothing_any L g _ _ 0 _ H.out).mono ?_; rintro e w' ⟨rfl, hw⟩; replace hw := hw.symm; subst hw)
      go_quiet (fail)
      have HR2 : Hid (∀ m, IsB (w.drewN m) (.slice (if cap = k then some ad else some (ad.add k)) (p.length - k) (cap - k)) (p.drop k)) := HR.out.2
      have HX2 : Hid (∀ m u, IsB ((w.drewN m).setCell ⟨g, 1, none⟩ u) (.slice (if cap = k then some ad else some (ad.add k)) (p.drop k).length (cap - k)) (p.drop k)) := HX.out
      clear HX HR
      generalize (if cap = k then some ad else some (ad.add k)) = zz at *
      go_wp2_with fail
      refine (HC.out _ _ (HR2.out _)).mono ?_
      rintro e' w' ⟨rfl, rfl⟩
      by_cases he : e = 0
      · subst he
        by_cases hn : p.length - k - s < n
        · have HE : Hid (rdT p k 0 most = ([], k, 2)) := by have h := HRD.out; rw [if_pos rfl, if_pos hn] at h; exact h
          have q1 : ((p.length - k : Nat) : Int) - (s : Int) < (n : Int) := by omega
          go_wp2
          go_ret
          refine ⟨by rw [HE.out]; rfl, ?_, ?_⟩
          · rw [HE.out]
            exact H.out.setWhy _ 2
          · exact grownBy.set _ _ _ _
        · have HE : Hid (rdT p k 0 most = ((p.drop (k + s)).take n, k + s + n, 0)) := by have h := HRD.out; rw [if_pos rfl, if_neg hn] at h; exact h
          have q1 : ¬ ((p.length - k : Nat) : Int) - (s : Int) < (n : Int) := by omega
          have hkn : k + s + n ≤ p.length := by omega
          have hcv : ∀ m u, (convert 22 9 (.slice (Option.map (fun x => x.add s) zz) n (cap - k - s))).run Try.prog ((w.drewN m).setCell ⟨g, 1, none⟩ u) = .ok (.string (txt ((p.drop (k + s)).take n))) ((w.drewN m).setCell ⟨g, 1, none⟩ u) := fun m u => by
            have := (HX2.out m u).sub s n (by rw [List.length_drop]; omega)
            rw [List.drop_drop] at this
            exact conv_txt this
          by_cases hcs : cap - k = s
          · obtain rfl : n = 0 := by omega
            have hcv0 : ∀ m u, (convert 22 9 (.slice zz 0 0)).run Try.prog ((w.drewN m).setCell ⟨g, 1, none⟩ u) = .ok (.string (txt ((p.drop (k + s)).take 0))) ((w.drewN m).setCell ⟨g, 1, none⟩ u) := fun m u => by
              rw [List.take_zero]
              exact conv_txt (IsB.none0 _ _)
            go_wp2
            go_ret
            refine ⟨by rw [HE.out]; rfl, ?_, ?_⟩
            · rw [HE.out]
              exact H.out.setAt _ (k + s) (by omega)
            · exact grownBy.set _ _ _ _
          · go_wp2
            go_ret
            refine ⟨by rw [HE.out]; rfl, ?_, ?_⟩
            · rw [HE.out]
              rw [show (k : Int) + ((s : Int) + (n : Int)) = ((k + s + n : Nat) : Int) by omega]
              exact H.out.setAt _ (k + s + n) hkn
            · exact grownBy.set _ _ _ _
      · have HE : Hid (rdT p k 0 most = ([], k, e)) := by have h := HRD.out; rw [if_neg he] at h; exact h
        have q : (e != 0) = true := by simp [he]
        have q2 : (e == 0) = false := by simp [he]
        clear he
        go_wp2
        go_ret
        refine ⟨by rw [HE.out]; rfl, ?_, ?_⟩
        · rw [HE.out]
          exact H.out.setWhy _ e
        · exact grownBy.set _ _ _ _
  · have HE : Hid (rdT p k y most = ([], k, y)) := by show _ = _; unfold rdT; rw [if_neg hy]
    have q : (y != 0) = true := by simp [hy]
    clear hy r h
    go_enter Try.func21, Try.ntmps21
    go_wp2_with (go_at_call 30; refine (readsNothing_any L g _ _ y _ H.out).mono ?_; rintro e w' ⟨rfl, hw⟩; replace hw := hw.symm; subst hw)
    go_ret
    refine ⟨by rw [HE.out]; rfl, ?_, grownBy.same _ _⟩
    rw [HE.out]
    exact H.out

end Go.Proofs.Ytfjejobakknipaa
