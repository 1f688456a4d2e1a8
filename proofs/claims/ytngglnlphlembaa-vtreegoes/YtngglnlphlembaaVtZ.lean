/- Trees in blocks of their own, and what spoils one. -/
import Derived.Test.YtngglnlphlembaaVtX
import Derived.Deep.Cut
namespace Go.Proofs.Ytngglnlphlembaa
open Go.RowKit
set_option linter.unusedVariables false
set_option linter.unusedSimpArgs false

def Stp9 (p : Prop) : Prop := p
theorem Stp9.to {p : Prop} (h : Stp9 p) : p := h
theorem Stp9.of {p : Prop} (h : p) : Stp9 p := h
/-- What stands while attributes are spoilt. -/
structure Sp1 (w : World) (t : VT) (av kv : Value) (n : Nat) (W : World) : Prop where
  tb : W.heap[w.heap.size]? = some (.cells #[.int .i64 t.k.1, .int .i64 t.k.2, .string t.tg, .string t.tx, av, kv] 27)
  row : ∃ A : List At, A.length = n ∧ OwnAt 0 W av A
  tch : Touch (fun k => av.ownBlock = some k) w W
/-- What stands while kids are spoilt. -/
structure Sp2 (m : Nat) (w : World) (F : Nat → Prop) (t : VT) (av kv : Value) (E : List (VT × Value × Value)) (Fs : Nat → Nat → Prop) (i : Nat) (W : World) : Prop where
  tb : W.heap[w.heap.size]? = some (.cells #[.int .i64 t.k.1, .int .i64 t.k.2, .string t.tg, .string t.tx, av, kv] 27)
  row : ∃ E2 : List (VT × Value × Value), E2.length = E.length ∧ OwnVn 0 W kv E2 ∧ ∀ j (h : j < E2.length) (h' : j < E.length), i ≤ j → E2[j] = E[j]
  sep : ∀ j (h : j < E.length), i ≤ j → SepF m W (Fs j) E[j].2.1 E[j].2.2 E[j].1
  tch : Touch F w W
section
variable {m : Nat} {w W W' : World} {F : Nat → Prop} {t : VT} {av kv : Value} {E : List (VT × Value × Value)} {Fs : Nat → Nat → Prop} {n i : Nat}
theorem OwnE.there {α : Type} {enc : α → List Value} {n : Nat} {T : TypeId} {B : Nat} {g m c : Nat} {D : List α} (hn : ∀ x, (enc x).length = n) (h : OwnE enc n T B W (.slice (some ⟨g, 0, none⟩) m c) D) (hi : i < D.length) : W.there g (i * n) n := by
  obtain ⟨g', c', e, _, hcs, hfz⟩ := OwnE.cells hn h hi
  cases e
  intro j hj
  refine ⟨?_, hfz _⟩
  obtain ⟨y, hy⟩ : ∃ y, (enc D[i])[j]? = some y := ⟨_, List.getElem?_eq_getElem (show j < (enc D[i]).length from by have := hn D[i]; omega)⟩
  rw [hcs j y hy]
  rfl
theorem Sp1.there {g c : Nat} (h : Sp1 w t (.slice (some ⟨g, 0, none⟩) n c) kv n W) (hi : i < n) : W.there g (i * 2) 2 := by
  obtain ⟨A, hA, hr⟩ := h.row
  exact OwnE.there atCells_len hr (by omega)
theorem Sp1.step {g c : Nat} (h : Sp1 w t (.slice (some ⟨g, 0, none⟩) n c) kv n W) (hi : i < n) (hg : g < w.heap.size) : Sp1 w t (.slice (some ⟨g, 0, none⟩) n c) kv n (W.setCells g (i * 2) (#[.string ⟨#[115, 112, 111, 105, 108, 116]⟩, .string ⟨#[]⟩]).toList) := by
  obtain ⟨A, hA, hr⟩ := h.row
  subst hA
  obtain ⟨h3, h4⟩ := OwnE.over atCells_len hr hi (⟨#[115, 112, 111, 105, 108, 116]⟩, ⟨#[]⟩) 0 (#[.string ⟨#[115, 112, 111, 105, 108, 116]⟩, .string ⟨#[]⟩]).toList (by decide) (by simp [setL, atCells])
  rw [Nat.add_zero] at h3 h4
  refine ⟨(h4.block _ (row_lt h.tb) (fun e => by injection e with e; omega)).trans h.tb, ⟨_, by rw [List.length_set], h3⟩, h.tch.trans (Touch.of_grown (F := fun k => (Value.slice (some ⟨g, 0, none⟩) A.length c).ownBlock = some k) h4 (fun k e _ => e)) (fun j q => .inl q)⟩
theorem Sp1.form {a : Option Addr} {c : Nat} (h : Sp1 w t (.slice a n c) kv n W) (hi : i < n) : ∃ g, a = some ⟨g, 0, none⟩ := by
  obtain ⟨A, hA, hr⟩ := h.row
  obtain ⟨g, cap, eg, _⟩ := OwnE.cells (i := i) atCells_len hr (by omega)
  injection eg with e1 _ _
  exact ⟨g, e1⟩
theorem Sp2.start (h : Sp1 w t av kv n W) (hr : OwnVn 0 w kv E) (ha : OwnAt 0 w av t.at_) (h6 : ∀ k, av.ownBlock = some k → F k) (h8 : ∀ i (h : i < E.length), SepF m w (Fs i) E[i].2.1 E[i].2.2 E[i].1) (h9 : ∀ i k, i < E.length → Fs i k → F k ∧ av.ownBlock ≠ some k ∧ kv.ownBlock ≠ some k) (hF : ∀ k, F k → k < w.heap.size) : Sp2 m w F t av kv E Fs 0 W := by
  refine ⟨h.tb, ⟨E, rfl, hr.keep fun k e => h.tch.block k (OwnE.lt hr k e).2 (fun q => ?_), fun j _ _ _ => rfl⟩, fun j hj _ => (h8 j hj).turn m fun k q => h.tch.block k (hF k (h9 j k hj q).1) (h9 j k hj q).2.1, h.tch.mono h6⟩
  obtain ⟨c1, x1⟩ := ownsRow_type hr k e
  obtain ⟨c2, x2⟩ := ownsRow_type ha k q
  rw [x1] at x2
  injection x2 with x2
  injection x2 with _ x2
  exact absurd x2 (by decide)
theorem Sp2.next {g c : Nat} {W2 : World} (h : Sp2 m w F t av (.slice (some ⟨g, 0, none⟩) n c) E Fs i W) (hn : n = E.length) (hi : i < E.length) (h7 : ∀ k, (Value.slice (some ⟨g, 0, none⟩) n c).ownBlock = some k → F k) (h9 : ∀ i k, i < E.length → Fs i k → F k ∧ av.ownBlock ≠ some k ∧ (Value.slice (some ⟨g, 0, none⟩) n c).ownBlock ≠ some k) (h10 : ∀ i j k, i ≠ j → Fs i k → ¬ Fs j k) (hF : ∀ k, F k → k < w.heap.size) (hp : Touch (Fs i) W W2) :
    Sp2 m w F t av (.slice (some ⟨g, 0, none⟩) n c) E Fs (i + 1) (W2.setCells g (i * 6) (#[.int .i64 0, .int .i64 0, .string ⟨#[115, 112, 111, 105, 108, 116]⟩, .string ⟨#[]⟩, .slice none 0 0, .slice none 0 0]).toList) ∧ W2.there g (i * 6) 6 ∧ Sp2 m w F t av (.slice (some ⟨g, 0, none⟩) n c) E Fs (i + 1) W2 := by
  subst hn
  obtain ⟨E2, e1, e2, e3⟩ := h.row
  have hws := h.tch.size
  have hg := hF g (h7 g rfl)
  have htl := row_lt h.tb
  have r2 : OwnVn 0 W2 (.slice (some ⟨g, 0, none⟩) E.length c) E2 := e2.keep fun k e => hp.block k (OwnE.lt e2 k e).2 (fun q => (h9 i k hi q).2.2 e)
  have b2 : W2.heap[w.heap.size]? = some (.cells #[.int .i64 t.k.1, .int .i64 t.k.2, .string t.tg, .string t.tx, av, (.slice (some ⟨g, 0, none⟩) E.length c)] 27) := (hp.block _ htl (fun q => by have := hF _ (h9 i _ hi q).1; omega)).trans h.tb
  have s2 : ∀ j (q : j < E.length), i + 1 ≤ j → SepF m W2 (Fs j) E[j].2.1 E[j].2.2 E[j].1 := fun j q z => (h.sep j q (by omega)).turn m fun k y => hp.block k (by have := hF k (h9 j k q y).1; omega) (fun x => h10 i j k (by omega) x y)
  have t2 : Touch F w W2 := h.tch.trans hp fun j q => .inl (h9 i j hi q).1
  have r3 : OwnVn 0 W2 (.slice (some ⟨g, 0, none⟩) E2.length c) E2 := (by rw [e1]; exact r2)
  have hi2 : i < E2.length := by omega
  obtain ⟨h3, h4⟩ := OwnE.over vnC_len r3 hi2 ((VT.node (0, 0) ⟨#[115, 112, 111, 105, 108, 116]⟩ ⟨#[]⟩ [] [], .slice none 0 0, .slice none 0 0) : VT × Value × Value) 0 (#[.int .i64 0, .int .i64 0, .string ⟨#[115, 112, 111, 105, 108, 116]⟩, .string ⟨#[]⟩, .slice none 0 0, .slice none 0 0]).toList (by decide) (by simp [setL, vnC, ndC, VT.k, VT.tg, VT.tx])
  rw [Nat.add_zero] at h3 h4
  have hps := hp.size
  refine ⟨⟨(h4.block _ (by omega) (fun e => by injection e with e; omega)).trans b2, ⟨E2.set i ((VT.node (0, 0) ⟨#[115, 112, 111, 105, 108, 116]⟩ ⟨#[]⟩ [] [], .slice none 0 0, .slice none 0 0) : VT × Value × Value), by rw [List.length_set, e1], by rw [← e1]; exact h3, fun j q q' z => ?_⟩, fun j q z => (s2 j q z).turn m fun k y => h4.block k (by have := hF k (h9 j k q y).1; omega) (fun e => (h9 j k q y).2.2 (by rw [e]; rfl)), t2.trans (Touch.of_grown (F := F) h4 (fun k e _ => by cases e; exact h7 g rfl)) (fun j q => .inl q)⟩, OwnE.there vnC_len r2 hi2, ⟨b2, ⟨E2, e1, r2, fun j q q' z => e3 j q q' (by omega)⟩, s2, t2⟩⟩
  rw [List.getElem_set_ne (by omega)]
  exact e3 j (by simpa using q) q' (by omega)
end

set_option maxRecDepth 100000 in
set_option maxHeartbeats 4000000 in
theorem spoil_n (m : Nat) : ∀ (F : Nat → Prop) (t : VT) (av kv : Value) (w : World), SepF m w F av kv t → (∀ k, F k → k < w.heap.size) → Calls Try.prog 8 #[.agg #[.int .i64 t.k.1, .int .i64 t.k.2, .string t.tg, .string t.tx, av, kv]] w fun e w' => (∃ v, e = .returned v) ∧ Touch F w w' := by
  induction m with
  | zero => intro _ _ _ _ _ h; exact h.elim
  | succ m ih =>
    intro F t av kv w h hF
    obtain ⟨E, Fs, h1, h2, h3, h4, h5, h6, h7, h8, h9, h10⟩ := h
    obtain ⟨a1, c1, e1⟩ := OwnE.form h1
    obtain ⟨a2, c2, e2⟩ := OwnE.form h2
    obtain ⟨n, en⟩ : ∃ n, n = E.length := ⟨_, rfl⟩
    rw [← en] at e2
    subst e1 e2
    have hEl : E.length = t.ks.length := (by rw [← h3, List.length_map])
    have hnb : n ≤ 1466015503701 := by omega
    have Hn := hide9 en
    have H1 := hide9 h1
    have H2 := hide9 h2
    have H6 := hide9 h6
    have H7 := hide9 h7
    have H8 := hide9 h8
    have H9 := hide9 h9
    have H10 := hide9 h10
    have HF := hide9 hF
    have HS : Hid (Sp1 w t (.slice a1 t.at_.length c1) (.slice a2 n c2) t.at_.length (w.alloc (.cells #[.int .i64 t.k.1, .int .i64 t.k.2, .string t.tg, .string t.tx, (.slice a1 t.at_.length c1), (.slice a2 n c2)] 27))) := ⟨heap_alloc_new _ _, ⟨t.at_, rfl, OwnE.below h1 ((Below.refl _ _).alloc (Nat.le_refl _) _)⟩, Touch.of_below ((Below.refl _ _).alloc (Nat.le_refl _) _)⟩
    clear en h1 h2 h3 h6 h7 h8 h9 h10 hF hEl h5
    go_enter Try.func8, Try.ntmps8
    go_wp2
    go_loopw [2] (fun iv wr => ∃ (i : Nat), iv = .int .i64 (i : Int) ∧ i ≤ t.at_.length ∧ Hid (Sp1 w t (.slice a1 t.at_.length c1) (.slice a2 n c2) t.at_.length wr)) (fun iv _ => t.at_.length - (intOf iv).toNat)
    case atStart => exact ⟨0, rfl, Nat.zero_le _, HS⟩
    case round =>
      clear HS
      obtain ⟨i, rfl, hin, HS⟩ := hrel
      have q4 := (row6 HS.out.tb).2.2.2.2.1
      by_cases hlt : i < t.at_.length
      · obtain ⟨g, e1⟩ := HS.out.form hlt
        subst e1
        have Ht := hide9 (HS.out.there hlt)
        have HS3 := hide9 (HS.out.step hlt (OwnE.lt H1.out g rfl).2)
        have k1 : (i : Int) < (t.at_.length : Int) := by omega
        have k0 : (0 : Int) ≤ (i : Int) := by omega
        have nw1 : IntKind.i64.wrap ((i : Int) + 1) = (i : Int) + 1 := by rw [IntKind.wrap_i64]; omega
        go_wp2_with (refine wpList_store_mid rfl 57 (.tmp 15) (.tmp 14) rfl g (i * 2) #[.string ⟨#[115, 112, 111, 105, 108, 116]⟩, .string ⟨#[]⟩] rfl rfl Ht.out (by kernel_rfl) (by simp [Value.oneCell']) ?_)
        go_roundw
        case rel => exact ⟨i + 1, by go_num, by omega, HS3⟩
        case measure => simp [intOf]; omega
      · have k1 : ¬ (i : Int) < (t.at_.length : Int) := by omega
        have k3 : decide ((i : Int) < (t.at_.length : Int)) = false := decide_eq_false k1
        have HT : Hid (Sp2 m w F t (.slice a1 t.at_.length c1) (.slice a2 n c2) E Fs 0 wr) := Sp2.start HS.out H2.out H1.out H6.out H8.out H9.out HF.out
        clear HS
        go_wp2
        go_loopw [3] (fun iv wr => ∃ (i : Nat), iv = .int .i64 (i : Int) ∧ i ≤ n ∧ Hid (Sp2 m w F t (.slice a1 t.at_.length c1) (.slice a2 n c2) E Fs i wr)) (fun iv _ => n - (intOf iv).toNat)
        case atStart => exact ⟨0, rfl, Nat.zero_le _, HT⟩
        case round =>
          clear HT q4 k1 k3
          clear hin hlt
          obtain ⟨i, rfl, hin, HS⟩ := hrel
          have q5 := (row6 HS.out.tb).2.2.2.2.2
          by_cases hlt : i < n
          · have hiE : i < E.length := (by have := Hn.out; omega)
            obtain ⟨E2, e1, e2, e3⟩ := HS.out.row
            have hi2 : i < E2.length := by omega
            obtain ⟨g, cap, eg, _, hcs, _⟩ := OwnE.cells vnC_len e2 hi2
            injection eg with x1 x2 x3
            subst x1
            clear x2 x3
            have ee := e3 i hi2 hiE (Nat.le_refl _)
            rw [ee] at hcs
            have hsep := HS.out.sep i hiE (Nat.le_refl _)
            have p0 := hcs 0 _ rfl
            have p1 := hcs 1 _ rfl
            have p2 := hcs 2 _ rfl
            have p3 := hcs 3 _ rfl
            have p4 := hcs 4 _ rfl
            have p5 := hcs 5 _ rfl
            obtain ⟨y, ey⟩ : ∃ y, y = E[i] := ⟨_, rfl⟩
            rw [← ey] at hsep p0 p1 p2 p3 p4 p5
            obtain ⟨x, xv, xk⟩ := y
            obtain ⟨xa, cx, xb, dx, f1, f2⟩ := SepF.form m hsep
            dsimp only at f1 f2
            subst f1 f2
            replace p0 : wr.cell? ⟨g, i * 6, none⟩ = some (.int .i64 x.k.1) := p0
            replace p1 : wr.cell? ⟨g, i * 6 + 1, none⟩ = some (.int .i64 x.k.2) := p1
            replace p2 : wr.cell? ⟨g, i * 6 + 2, none⟩ = some (.string x.tg) := p2
            replace p3 : wr.cell? ⟨g, i * 6 + 3, none⟩ = some (.string x.tx) := p3
            replace p4 : wr.cell? ⟨g, i * 6 + 4, none⟩ = some (.slice xa x.at_.length cx) := p4
            replace p5 : wr.cell? ⟨g, i * 6 + 5, none⟩ = some (.slice xb x.ks.length dx) := p5
            have Hsep : Hid (SepF m wr (Fs i) (.slice xa x.at_.length cx) (.slice xb x.ks.length dx) x) := hsep
            have HFi : Hid (∀ k, Fs i k → k < wr.heap.size) := (fun k q => Nat.lt_of_lt_of_le (HF.out k (H9.out i k hiE q).1) HS.out.tch.size)
            have HiE := hide9 hiE
            have k1 : (i : Int) < (n : Int) := by omega
            have k0 : (0 : Int) ≤ (i : Int) := by omega
            clear ey hsep hcs e1 e2 e3 ee hi2 hiE
            go_wp2_with fail
            refine (ih (Fs i) x _ _ _ Hsep.out HFi.out).mono ?_
            clear p0 p1 p2 p3 p4 p5 q5
            rintro e W2 ⟨⟨v, rfl⟩, hp⟩
            obtain ⟨hs3, ht3, hs4⟩ := HS.out.next Hn.out HiE.out H7.out H9.out H10.out HF.out hp
            have HS3 := hide9 hs3
            have Ht : Hid (∀ X, X = W2 → X.there g (i * 6) (#[.int .i64 0, .int .i64 0, .string ⟨#[115, 112, 111, 105, 108, 116]⟩, .string ⟨#[]⟩, .slice none 0 0, .slice none 0 0] : Array Value).size) := (fun X e => by rw [e]; exact ht3)
            have q5 := (row6 hs4.tb).2.2.2.2.2
            clear hs3 ht3 hs4 hp Hsep HFi HS
            have nw1 : IntKind.i64.wrap ((i : Int) + 1) = (i : Int) + 1 := by rw [IntKind.wrap_i64]; omega
            go_upto_region 9 with fail
            go_wp2_with (refine wpList_store_mid rfl 27 (.tmp 33) (.tmp 32) rfl g (i * 6) #[.int .i64 0, .int .i64 0, .string ⟨#[115, 112, 111, 105, 108, 116]⟩, .string ⟨#[]⟩, .slice none 0 0, .slice none 0 0] rfl rfl (Ht.out _ (by with_reducible rfl)) sizeVN (by simp [Value.oneCell']) ?_)
            go_roundw
            case rel => exact ⟨i + 1, by go_num, by omega, HS3⟩
            case measure => simp [intOf]; omega
          · have k1 : ¬ (i : Int) < (n : Int) := by omega
            have k3 : decide ((i : Int) < (n : Int)) = false := decide_eq_false k1
            have HQ := hide9 HS.out.tch
            clear HS
            go_wp2
            refine bodyPost_end (results_none rfl _ _ _) rfl ?_
            exact ⟨⟨_, rfl⟩, HQ.out⟩

end Go.Proofs.Ytngglnlphlembaa
