/- tree. -/
import Derived.Test.YtccpljllgpabnabPaJ
import Derived.Deep.AppendLies
namespace Go.Proofs.Ytccpljllgpabnab
open Go.RowKit
set_option linter.unusedVariables false
set_option linter.unusedSimpArgs false

/-- The blocks of some nodes' attributes. -/
def AtB (X : Nat → Prop) (g : Gr) (k : Nat) : Prop := ∃ b, X b ∧ (g.av b).ownBlock = some k
/-- What stands while a tree is told: its box, its kids' row. -/
structure TrS (w : World) (t : VT) (av : Value) (H : Nat → Prop) (kv : Value) (E : List (VT × Value × Value)) (i : Nat) (W : World) : Prop where
  rb : W.heap[w.heap.size]? = some (.cells #[.int .i64 0, .int .i64 0, .string ⟨#[]⟩, .string ⟨#[]⟩, .slice none 0 0, .slice none 0 0] 27)
  ob : W.heap[w.heap.size + 1]? = some (.cells #[.int .i64 t.k.1, .int .i64 t.k.2, .string t.tg, .string t.tx, av, kv] 27)
  bel : Below w.heap.size w W
  row : OwnE vnC 6 27 (w.heap.size + 2) W kv E
  es : E.map Prod.fst = t.ks.take i
  ev : ∀ x ∈ E, FdIs H W x.2.1 x.2.2 x.1.at_ x.1.ks
  hH : ∀ k, H k → k < W.heap.size ∧ (k < w.heap.size ∨ w.heap.size + 2 ≤ k) ∧ kv.ownBlock ≠ some k
section
variable {X : Nat → Prop} {g : Gr} {w W W2 W3 W' : World} {t : VT} {av kv v3 : Value} {H F : Nat → Prop} {E : List (VT × Value × Value)} {i : Nat}
theorem TrS.below (h : TrS w t av H kv E i W) (hb : Below W.heap.size W W') : TrS w t av H kv E i W' := ⟨(hb.block _ (row_lt h.rb)).trans h.rb, (hb.block _ (row_lt h.ob)).trans h.ob, h.bel.trans (hb.mono h.bel.size), h.row.below hb, h.es, fun x hx => (h.ev x hx).below hb, fun k q => ⟨Nat.lt_of_lt_of_le (h.hH k q).1 hb.size, (h.hH k q).2⟩⟩
theorem TrS.push (h : TrS w t av H kv E i W) (hi : i < t.ks.length) {x : VT} (hx : x = t.ks[i]) {xa xk : Value} (hb : Below W.heap.size W W2) (hF : ∀ k, F k → k < W2.heap.size ∧ (k < w.heap.size ∨ W.heap.size ≤ k)) (hf : FdIs F W2 xa xk x.at_ x.ks)
    (hown : OwnE vnC 6 27 (w.heap.size + 2) W3 v3 (E ++ [(x, xa, xk)])) (hg : W2.grownBy W3 kv.ownBlock) (hat : v3.ownBlock = kv.ownBlock ∨ v3.ownBlock = some W2.heap.size) :
    TrS w t av (fun k => H k ∨ F k) v3 (E ++ [(x, xa, xk)]) (i + 1) (W3.setCell ⟨w.heap.size + 1, 5, none⟩ v3) := by
  have h2 := h.below hb
  have hob := row_lt h.ob
  have hrb := row_lt h.rb
  have hkv : ∀ k, kv.ownBlock = some k → w.heap.size + 2 ≤ k ∧ k < W.heap.size := fun k e => (OwnE.lt h.row k e)
  have hk9 : ∀ k, kv.ownBlock = some k → k ≠ w.heap.size + 1 ∧ k ≠ w.heap.size := fun k e => (by have := hkv k e; omega)
  have hv3 : ∀ k, v3.ownBlock = some k → k ≠ w.heap.size + 1 := fun k e => by
    rcases hat with q | q
    · exact (hk9 k (by rw [← q, e])).1
    · rw [e] at q; cases q; have := hb.size; omega
  have b3 : W3.heap[w.heap.size + 1]? = some (.cells #[.int .i64 t.k.1, .int .i64 t.k.2, .string t.tg, .string t.tx, av, kv] 27) := (hg.block _ (row_lt h2.ob) (fun e => (hk9 _ e.symm).1 rfl)).trans h2.ob
  have hs : (W3.setCell ⟨w.heap.size + 1, 5, none⟩ v3).heap.size = W3.heap.size := by simp [World.setCell]
  have hk : ∀ k, k ≠ w.heap.size + 1 → (W3.setCell ⟨w.heap.size + 1, 5, none⟩ v3).heap[k]? = W3.heap[k]? := fun k q => RowKit.Below.heap_setCell _ _ _ _ q
  have hl2 := hb.size
  have hl3 := hg.size
  have hHk : ∀ k, H k → (W3.setCell ⟨w.heap.size + 1, 5, none⟩ v3).heap[k]? = W2.heap[k]? := fun k q => (hk k (by have := (h.hH k q).2.1; omega)).trans (hg.block k (by have := (h.hH k q).1; omega) (fun e => (h.hH k q).2.2 e.symm))
  have hFk : ∀ k, F k → (W3.setCell ⟨w.heap.size + 1, 5, none⟩ v3).heap[k]? = W2.heap[k]? := fun k q => (hk k (by have := (hF k q).2; omega)).trans (hg.block k (hF k q).1 (fun e => by have h9 := hkv k e.symm; have := (hF k q).2; omega))
  refine ⟨(hk _ (by omega)).trans ((hg.block _ (row_lt h2.rb) (fun e => (hk9 _ e.symm).2 rfl)).trans h2.rb), ?_, (h2.bel.grown hg h2.bel.size (fun k e => by have := hkv k e; omega)).setCell (p := ⟨w.heap.size + 1, 5, none⟩) (by show w.heap.size ≤ w.heap.size + 1; omega) _, ?_, ?_, ?_, fun k q => ?_⟩
  · rw [heap_setCell_same W3 (w.heap.size + 1) 5 _ _ _ b3]
    rfl
  · exact OwnE.keep hown fun k e => hk k (hv3 k e)
  · rw [List.map_append, h.es, List.take_succ_eq_append_getElem hi, hx]
    rfl
  · intro y hy
    rcases List.mem_append.1 hy with hy | hy
    · exact (h2.ev y hy).turn (by rw [hs]; exact hl3) fun k q _ => ⟨.inl q, hHk k q⟩
    · rw [List.mem_singleton] at hy
      subst hy
      exact hf.turn (by rw [hs]; exact hl3) fun k q _ => ⟨.inr q, hFk k q⟩
  · rw [hs]
    rcases q with q | q
    · have h9 := h.hH k q
      refine ⟨by omega, h9.2.1, fun e => ?_⟩
      rcases hat with z | z
      · exact h9.2.2 (by rw [← z, e])
      · rw [e] at z; cases z; omega
    · have h9 := hF k q
      refine ⟨by omega, by omega, fun e => ?_⟩
      rcases hat with z | z
      · rw [z] at e; have := hkv k e; omega
      · rw [e] at z; cases z; omega
/-- All kids. -/
theorem TrS.done (h : TrS w t av H kv E t.ks.length W) (hl : t.ks.length ≤ 1466015503701) (hal : t.at_.length ≤ 4398046511104) (ha : OwnAt 0 W av t.at_) : FdIs (fun k => H k ∨ kv.ownBlock = some k ∨ av.ownBlock = some k) W av kv t.at_ t.ks := by
  have hes := h.es
  rw [List.take_length] at hes
  have hEl : E.length = t.ks.length := by rw [← hes]; simp
  refine ⟨(OwnE.lsE atCells_len ha (by omega) (fun k e => .inr (.inr e))), hal, ?_⟩
  have h0 := h.row
  rcases h.row.2 with ⟨e, hn⟩ | ⟨g, cap, cur, e, hg, hc, hcap, rest⟩
  · have : t.ks = [] := List.eq_nil_of_length_eq_zero (by omega)
    rw [this, e]
    exact ⟨none, 0, rfl, Nat.le_refl _, by simp, .inl rfl⟩
  · rw [e] at h0 ⊢
    refine ⟨some ⟨g, 0, none⟩, cap, by rw [hEl], by omega, hl, .inr ⟨g, 0, rfl, .inr (.inl rfl), row_lt hc, (VRow_iff _ _).2 fun i hi => ?_⟩⟩
    have hiE : i < E.length := by omega
    obtain ⟨g', cap', e', _, hcs, _⟩ := OwnE.cells vnC_len h0 hiE
    cases e'
    have hxi : E[i].1 = t.ks[i] := by
      have h9 : (E.map Prod.fst)[i]'(by simpa using hiE) = t.ks[i] := by simp only [hes]
      simpa using h9
    refine VAt_iff.2 ⟨E[i].2.1, E[i].2.2, fun j u hj => ?_, ?_⟩
    · rw [Nat.zero_add]
      refine hcs j u ?_
      unfold vnC
      rw [hxi]
      exact hj
    · have h9 := h.ev E[i] (List.getElem_mem hiE)
      rw [hxi] at h9
      exact h9.mono fun k q _ => .inl q
end
/-- What is told of a tree in blocks. -/
structure TrG (X : Nat → Prop) (g : Gr) (w : World) : Prop where
  mem : GMem X w g
  lk : Lnk X g
  at_ : ∀ b, X b → OwnAt 0 w (g.av b) (g.o b).at_
theorem TrG.below {X : Nat → Prop} {g : Gr} {w w' : World} (h : TrG X g w) (hb : Below w.heap.size w w') : TrG X g w' := ⟨h.mem.keep fun b q => hb.block _ (h.mem.lt q), h.lk, fun b q => OwnE.below (h.at_ b q) hb⟩
def TrQ (X : Nat → Prop) (g : Gr) (t : VT) (w : World) (e : Ending) (w' : World) : Prop := ∃ v F, e = .returned v ∧ VIs F w' v t ∧ (∀ k, F k → k < w'.heap.size ∧ (AtB X g k ∨ w.heap.size ≤ k)) ∧ Below w.heap.size w w'
theorem recL_mem {t : VT} : ∀ {l : List VT}, t ∈ l → ∀ r ∈ recV t, r ∈ recL l
  | x :: s, h, r, hr => by
    rw [recL, List.mem_append]
    rcases List.mem_cons.1 h with rfl | h
    · exact .inl hr
    · exact .inr (recL_mem h r hr)
theorem Lnk.next {X : Nat → Prop} {g : Gr} (h : Lnk X g) {n i : Nat} (hn : X n) (hi : i < (g.C n).length) : g.nx (g.C n)[i] = ((g.C n).drop (i + 1)).head? := by
  have e : g.C n = (g.C n).take i ++ (g.C n)[i] :: (g.C n).drop (i + 1) := by rw [← List.drop_eq_getElem_cons hi, List.take_append_drop]
  exact (h.spl n _ _ _ hn e).2.2

theorem TrG.belowW {X : Nat → Prop} {g : Gr} {w w' : World} (h : TrG X g w) (hb : Below w.heap.size w w') : TrG X g w' := h.below hb
theorem TrG.grown {X : Nat → Prop} {g : Gr} {w w' : World} (h : TrG X g w) {r : Option Nat} (hg : w.grownBy w' r) (h1 : ∀ b, X b → r ≠ some b) (h2 : ∀ k, AtB X g k → r ≠ some k) : TrG X g w' := ⟨h.mem.keep fun b q => hg.block _ (h.mem.lt q) fun e => h1 b q e.symm, h.lk, fun b q => OwnE.keep (h.at_ b q) fun k e => hg.block k (OwnE.lt (h.at_ b q) k e).2 fun e2 => h2 k ⟨b, q, e⟩ e2.symm⟩
theorem TrG.set {X : Nat → Prop} {g : Gr} {w : World} (h : TrG X g w) {b i : Nat} {v : Value} (h1 : ¬ X b) (h2 : ¬ AtB X g b) : TrG X g (w.setCell ⟨b, i, none⟩ v) := h.grown (grownBy_setCell _ _ _ _) (fun c hc e => h1 (by cases e; exact hc)) (fun k hk e => h2 (by cases e; exact hk))

set_option maxRecDepth 100000 in
set_option maxHeartbeats 4000000 in
theorem tree_n (X : Nat → Prop) (g : Gr) (m : Nat) : ∀ (t : VT) (n : Nat) (w : World), t.sz ≤ m → TrG X g w → X n → Rt g t n → ((∀ r ∈ recV t, r.at_.length ≤ 4096) ∧ t.sz ≤ 8192) → Calls Try.prog 16 #[.pointer (some ⟨n, 0, none⟩)] w fun e w' => TrQ X g t w e w' := by
  induction m with
  | zero => intro t _ _ h; have := t.sz_pos; omega
  | succ m ih =>
    intro t n w hm h hX hr hbd
    have Hmem0 : Hid (∀ b, X b → b < w.heap.size) := hide9 fun b hb => h.mem.lt hb
    have hno : g.o n = ⟨t.k, t.tg, t.tx, t.at_⟩ := (Rt_iff.1 hr).1
    have hrl : RtL g t.ks (g.C n) := (Rt_iff.1 hr).2
    have hat := h.at_ n hX
    rw [hno] at hat
    obtain ⟨aa, ca, eav⟩ := OwnE.form hat
    dsimp only at eav hat
    have hrow := h.mem n hX
    have hbn : t.at_.length ≤ 4096 := hbd.1 t.nf (by rw [recV_eq]; exact List.mem_cons_self ..)
    have hbk : t.ks.length ≤ 8192 := (by have h1 := szs_len t.ks; have h2 := t.sz_eq; have := hbd.2; omega)
    have hlen : (g.C n).length = t.ks.length := RtL.len hrl
    have hn0 : w.cell? ⟨n, 0, none⟩ = some (.int .i64 t.k.1) := (by rw [cell_of_row w n 0 _ _ _ hrow]; simp [gRow, hno])
    have hn1 : w.cell? ⟨n, 1, none⟩ = some (.int .i64 t.k.2) := (by rw [cell_of_row w n 1 _ _ _ hrow]; simp [gRow, hno])
    have hn2 : w.cell? ⟨n, 2, none⟩ = some (.string t.tg) := (by rw [cell_of_row w n 2 _ _ _ hrow]; simp [gRow, hno])
    have hn3 : w.cell? ⟨n, 3, none⟩ = some (.string t.tx) := (by rw [cell_of_row w n 3 _ _ _ hrow]; simp [gRow, hno])
    have hn4 : w.cell? ⟨n, 4, none⟩ = some (.slice aa t.at_.length ca) := (by rw [cell_of_row w n 4 _ _ _ hrow]; simp [gRow, eav])
    have hn5 : w.cell? ⟨n, 5, none⟩ = some (.slice none 0 0) := (by rw [cell_of_row w n 5 _ _ _ hrow]; simp [gRow])
    have hnlt := row_lt hrow
    have hba : Below w.heap.size w (w.alloc (.cells #[.int .i64 0, .int .i64 0, .string ⟨#[]⟩, .string ⟨#[]⟩, .slice none 0 0, .slice none 0 0] 27)) := (Below.refl _ _).alloc (Nat.le_refl _) _
    have hbb : Below w.heap.size w ((w.alloc (.cells #[.int .i64 0, .int .i64 0, .string ⟨#[]⟩, .string ⟨#[]⟩, .slice none 0 0, .slice none 0 0] 27)).alloc (.cells #[.int .i64 0, .int .i64 0, .string ⟨#[]⟩, .string ⟨#[]⟩, .slice none 0 0, .slice none 0 0] 27)) := ((Below.refl _ _).alloc (Nat.le_refl _) _).alloc (by simp) _
    have p0 : (w.alloc (.cells #[.int .i64 0, .int .i64 0, .string ⟨#[]⟩, .string ⟨#[]⟩, .slice none 0 0, .slice none 0 0] 27)).cell? ⟨n, 0, none⟩ = some (.int .i64 t.k.1) := (hba.cell (p := ⟨n, 0, none⟩) hnlt).trans hn0
    have p1 : (w.alloc (.cells #[.int .i64 0, .int .i64 0, .string ⟨#[]⟩, .string ⟨#[]⟩, .slice none 0 0, .slice none 0 0] 27)).cell? ⟨n, 1, none⟩ = some (.int .i64 t.k.2) := (hba.cell (p := ⟨n, 1, none⟩) hnlt).trans hn1
    have p2 : (w.alloc (.cells #[.int .i64 0, .int .i64 0, .string ⟨#[]⟩, .string ⟨#[]⟩, .slice none 0 0, .slice none 0 0] 27)).cell? ⟨n, 2, none⟩ = some (.string t.tg) := (hba.cell (p := ⟨n, 2, none⟩) hnlt).trans hn2
    have p3 : (w.alloc (.cells #[.int .i64 0, .int .i64 0, .string ⟨#[]⟩, .string ⟨#[]⟩, .slice none 0 0, .slice none 0 0] 27)).cell? ⟨n, 3, none⟩ = some (.string t.tx) := (hba.cell (p := ⟨n, 3, none⟩) hnlt).trans hn3
    have p4 : (w.alloc (.cells #[.int .i64 0, .int .i64 0, .string ⟨#[]⟩, .string ⟨#[]⟩, .slice none 0 0, .slice none 0 0] 27)).cell? ⟨n, 4, none⟩ = some (.slice aa t.at_.length ca) := (hba.cell (p := ⟨n, 4, none⟩) hnlt).trans hn4
    have p5 : (w.alloc (.cells #[.int .i64 0, .int .i64 0, .string ⟨#[]⟩, .string ⟨#[]⟩, .slice none 0 0, .slice none 0 0] 27)).cell? ⟨n, 5, none⟩ = some (.slice none 0 0) := (hba.cell (p := ⟨n, 5, none⟩) hnlt).trans hn5
    have hz : ((w.alloc (.cells #[.int .i64 0, .int .i64 0, .string ⟨#[]⟩, .string ⟨#[]⟩, .slice none 0 0, .slice none 0 0] 27)).alloc (.cells #[.int .i64 0, .int .i64 0, .string ⟨#[]⟩, .string ⟨#[]⟩, .slice none 0 0, .slice none 0 0] 27)).heap[w.heap.size + 1]? = some (.cells #[.int .i64 0, .int .i64 0, .string ⟨#[]⟩, .string ⟨#[]⟩, .slice none 0 0, .slice none 0 0] 27) := (by have h2 := heap_alloc_new (w.alloc (.cells #[.int .i64 0, .int .i64 0, .string ⟨#[]⟩, .string ⟨#[]⟩, .slice none 0 0, .slice none 0 0] 27)) (.cells #[.int .i64 0, .int .i64 0, .string ⟨#[]⟩, .string ⟨#[]⟩, .slice none 0 0, .slice none 0 0] 27); rw [show (w.alloc (.cells #[.int .i64 0, .int .i64 0, .string ⟨#[]⟩, .string ⟨#[]⟩, .slice none 0 0, .slice none 0 0] 27)).heap.size = w.heap.size + 1 by simp] at h2; exact h2)
    obtain ⟨W3, eW3⟩ : ∃ Y, Y = (((w.alloc (.cells #[.int .i64 0, .int .i64 0, .string ⟨#[]⟩, .string ⟨#[]⟩, .slice none 0 0, .slice none 0 0] 27)).alloc (.cells #[.int .i64 0, .int .i64 0, .string ⟨#[]⟩, .string ⟨#[]⟩, .slice none 0 0, .slice none 0 0] 27)).setRow (w.heap.size + 1) #[.int .i64 t.k.1, .int .i64 t.k.2, .string t.tg, .string t.tx, .slice aa t.at_.length ca, .slice none 0 0]) := ⟨_, rfl⟩
    have hb3 : Below w.heap.size w W3 := (by rw [eW3]; exact hbb.grown (grown_setRow _ _ _) hbb.size (fun k e => by cases e; omega))
    have HS : Hid (TrS w t (.slice aa t.at_.length ca) (fun _ => False) (.slice none 0 0) [] 0 W3) := hide9 ⟨(by rw [eW3, setRow_other _ _ _ _ (by omega)]; exact (Below.heap_alloc _ _ _ (by simp)).trans (heap_alloc_new w _)), (by rw [eW3]; exact setRow_same hz), hb3, OwnE.nil0 _ _, by simp, fun x hx => absurd hx (by simp), fun k q => q.elim⟩
    have HG : Hid (TrG X g W3) := h.belowW hb3
    have HE3 := hide9 eW3
    have Hz := hide9 hz
    have Hrl := hide9 hrl
    have Hbd := hide9 hbd
    have HX := hide9 hX
    have Hlk := hide9 h.lk
    have Hlen := hide9 hlen
    have Hav := hide9 eav
    have Hno := hide9 hno
    have Hbk := hide9 hbk
    have Hbn := hide9 hbn
    have Hat0 := hide9 h.at_
    have Hlow : Hid (∀ k, AtB X g k → k < w.heap.size) := hide9 (fun k hk => by obtain ⟨b, q1, q2⟩ := hk; exact (OwnE.lt (h.at_ b q1) k q2).2)
    obtain ⟨i0, hin, hz0, hz1, hz2⟩ := info_parts infoVn
    clear hno hrl hat eav hrow hbn hbk hlen hn0 hn1 hn2 hn3 hn4 hn5 hnlt hba hbb hz eW3 hb3 h hX hbd hr
    go_enter Try.func16, Try.ntmps16
    go_upto_region 2 with (refine wpList_store_row rfl 27 (.tmp 3) (.tmp 8) rfl (w.heap.size + 1) 27 #[.int .i64 0, .int .i64 0, .string ⟨#[]⟩, .string ⟨#[]⟩, .slice none 0 0, .slice none 0 0] #[.int .i64 t.k.1, .int .i64 t.k.2, .string t.tg, .string t.tx, .slice aa t.at_.length ca, .slice none 0 0] rfl rfl Hz.out sizeVN rfl (by simp [Value.oneCell']) ?_)
    rw [← HE3.out]
    clear HE3 Hz p0 p1 p2 p3 p4 p5
    have p9 : W3.cell? ⟨n, 9, none⟩ = some (ptr ((g.C n).drop 0).head?) := (by have h9 := HG.out.mem.cfs HX.out; rw [Hlk.out.fst n HX.out] at h9; exact h9)
    go_wp2
    clear p9
    go_loopg [4] (t.ks.length) (fun gk kp wr => ∃ (i : Nat) (kv : Value) (E : List (VT × Value × Value)) (H : Nat → Prop), kp = ptr (((g.C n).drop i).head?) ∧ i ≤ t.ks.length ∧ gk = t.ks.length - i ∧ Hid (TrG X g wr) ∧ Hid (TrS w t (.slice aa t.at_.length ca) H kv E i wr) ∧ Hid (∀ k, H k → AtB X g k ∨ w.heap.size ≤ k))
    case atStart => exact ⟨0, _, _, _, rfl, Nat.zero_le _, rfl, HG, HS, fun k q => q.elim⟩
    case round =>
      clear HG HS
      obtain ⟨i, kv, E, H, rfl, hi, hgk, HG, HP, HH⟩ := hrel
      subst hgk
      by_cases hlt : i < t.ks.length
      · have hiC : i < (g.C n).length := by rw [Hlen.out]; exact hlt
        obtain ⟨c, ec⟩ : ∃ c, c = (g.C n)[i] := ⟨_, rfl⟩
        have hp0 : ptr (((g.C n).drop i).head?) = .pointer (some ⟨c, 0, none⟩) := (by rw [List.drop_eq_getElem_cons hiC, ec]; rfl)
        rw [hp0]
        have hcX : X c := Hlk.out.mem n c HX.out (by rw [ec]; exact List.getElem_mem hiC)
        have hcr : Rt g t.ks[i] c := (by rw [ec]; exact Hrl.out.at_ i hlt hiC)
        have hnx : g.nx c = ((g.C n).drop (i + 1)).head? := (by rw [ec]; exact Hlk.out.next HX.out hiC)
        have hszx : t.ks[i].sz ≤ m := (by have := VT.kid (t := t) hlt; omega)
        have hbdx : (∀ r ∈ recV t.ks[i], r.at_.length ≤ 4096) ∧ t.ks[i].sz ≤ 8192 := ⟨fun r hr => Hbd.out.1 r (by rw [recV_eq]; exact List.mem_cons_of_mem _ (recL_mem (List.getElem_mem hlt) r hr)), by have := VT.kid (t := t) hlt; have := Hbd.out.2; omega⟩
        obtain ⟨x, ex⟩ : ∃ x, x = t.ks[i] := ⟨_, rfl⟩
        rw [← ex] at hcr hszx hbdx
        have Hx := hide9 ex
        have HcX := hide9 hcX
        have Hcr := hide9 hcr
        have Hnx := hide9 hnx
        have Hsz := hide9 hszx
        have Hbx := hide9 hbdx
        obtain ⟨ka, kc, ekv⟩ := OwnE.form HP.out.row
        subst ekv
        have HEl : Hid (E.length = i) := hide9 (by have h9 := congrArg List.length HP.out.es; rw [List.length_map, List.length_take] at h9; omega)
        clear ec hp0 hcX hcr hnx hszx hbdx ex hiC
        go_wp2
        have HTy : Hid (∀ kv W E, TrS w t (.slice aa t.at_.length ca) H kv E i W → ∀ b, X b → kv.ownBlock ≠ some b) := hide9 (fun kv W E h b hb e => by have h1 := (HG.out.mem.lt hb); exact absurd (Hmem0.out b hb) (by have := (OwnE.lt h.row b e).1; omega))
        have HTo : Hid (∀ (W : World), W.heap[w.heap.size + 1]? = some (.cells #[.int .i64 t.k.1, .int .i64 t.k.2, .string t.tg, .string t.tx, .slice aa t.at_.length ca, .slice ka E.length kc] 27) → ¬ X (w.heap.size + 1)) := hide9 (fun W _ hx => by have := Hmem0.out _ hx; omega)
        refine wp_region_held_drew (S := fun W' => W'.heap[w.heap.size]? = some (.cells #[.int .i64 0, .int .i64 0, .string ⟨#[]⟩, .string ⟨#[]⟩, .slice none 0 0, .slice none 0 0] 27)) (by kernel_rfl) HP.out.rb (fun hHeld => ?_)
        obtain ⟨Uq1u0, eW⟩ : ∃ X, X = wr.drew := ⟨_, rfl⟩
        have hb : Below wr.heap.size wr Uq1u0 := by rw [eW]; exact (Below.refl _ _).drew
        replace HG : Hid (TrG X g Uq1u0) := HG.out.below hb
        replace HP : Hid (TrS w t (.slice aa t.at_.length ca) H (.slice ka E.length kc) E i Uq1u0) := HP.out.below hb
        rw [← eW] at hHeld ⊢
        clear eW hb
        refine tkW 0 (some 19) (v := ?_) ?_ hHeld ?_
        rotate_left
        · (intro ww _; go_simp; try with_reducible rfl)
        refine tkW 2 (some 21) (v := ?_) ?_ hHeld ?_
        rotate_left
        · (intro ww _; go_simp; try with_reducible rfl)
        refine wpAnyH_ready (rs := [1, 3]) (by kernel_rfl) (by simp) ?_
        refine AllReadyH.cons (o := ⟨some 20, _, _, _, _, _⟩) rfl (fun K hK => ?_) (AllReadyH.cons (o := ⟨some 22, _, _, _, _, _⟩) rfl (fun K hK => ?_) AllReadyH.nil)
        · have q5 := (row6 HP.out.ob).2.2.2.2.2
          go_simp
          refine hK.out _ _ (hHeld) (fun hHeld2 => ?_)
          clear hK K hHeld
          have hHeld := hHeld2
          clear hHeld2
          (try simp only [Act.put, List.setIfInBounds_toArray, List.set_cons_zero, List.set_cons_succ])
          clear q5
          refine wpAnyH_ready (rs := [3]) (by kernel_rfl) (by simp) ?_
          refine AllReadyH.cons (o := ⟨some 22, _, _, _, _, _⟩) rfl (fun K hK => ?_) AllReadyH.nil
          go_simp
          refine (ih x c _ Hsz.out HG.out HcX.out Hcr.out Hbx.out).mono ?_
          rintro e Uq1u2 ⟨v7, F7, rfl, hv7, hF7, hb⟩
          obtain ⟨ya, cy, yk, dy, e7, fy⟩ := hv7.form
          subst e7
          have HS7 : Hid (∃ Wk, TrS w t (.slice aa t.at_.length ca) H (.slice ka E.length kc) E i Wk ∧ Below Wk.heap.size Wk Uq1u2 ∧ (∀ k, F7 k → k < Uq1u2.heap.size ∧ (AtB X g k ∨ Wk.heap.size ≤ k)) ∧ FdIs F7 Uq1u2 (.slice ya x.at_.length cy) (.slice yk x.ks.length dy) x.at_ x.ks) := ⟨_, HP.out, hb, hF7, fy⟩
          have HP7 : Hid (TrS w t (.slice aa t.at_.length ca) H (.slice ka E.length kc) E i Uq1u2) := HP.out.below hb
          replace HG : Hid (TrG X g Uq1u2) := HG.out.below hb
          clear hv7 hF7 fy HP
          (try go_wp2_with fail)
          refine hK.out _ _ (HP7.out.rb) (fun hHeld2 => ?_)
          clear hK K hHeld
          have hHeld := hHeld2
          clear hHeld2
          (try simp only [Act.put, List.setIfInBounds_toArray, List.set_cons_zero, List.set_cons_succ])
          clear hb
          refine wpAnyH_ready (rs := [4]) (by kernel_rfl) (by simp) ?_
          refine AllReadyH.cons (o := ⟨some 23, _, _, _, _, _⟩) rfl (fun K hK => ?_) AllReadyH.nil
          have hbx : Below Uq1u2.heap.size Uq1u2 (Uq1u2.alloc (.cells #[.int .i64 x.k.1, .int .i64 x.k.2, .string x.tg, .string x.tx, .slice ya x.at_.length cy, .slice yk x.ks.length dy] 27)) := (Below.refl _ _).alloc (Nat.le_refl _) _
          go_simp
          refine hK.out _ _ ((hbx.block _ (row_lt hHeld)).trans hHeld) (fun hHeld2 => ?_)
          clear hK K hHeld
          have hHeld := hHeld2
          clear hHeld2
          (try simp only [Act.put, List.setIfInBounds_toArray, List.set_cons_zero, List.set_cons_succ])
          obtain ⟨Uq1u3, eW⟩ : ∃ X, X = Uq1u2.alloc (.cells #[.int .i64 x.k.1, .int .i64 x.k.2, .string x.tg, .string x.tx, .slice ya x.at_.length cy, .slice yk x.ks.length dy] 27) := ⟨_, rfl⟩
          have hb : Below Uq1u2.heap.size Uq1u2 Uq1u3 := by rw [eW]; exact (Below.refl _ _).alloc (Nat.le_refl _) _
          replace HG : Hid (TrG X g Uq1u3) := HG.out.below hb
          have HT : Hid (Uq1u3.heap[Uq1u2.heap.size]? = some (.cells #[.int .i64 x.k.1, .int .i64 x.k.2, .string x.tg, .string x.tx, .slice ya x.at_.length cy, .slice yk x.ks.length dy] 27)) := (by rw [eW]; exact heap_alloc_new _ _)
          replace HS7 : Hid (∃ Wk, TrS w t (.slice aa t.at_.length ca) H (.slice ka E.length kc) E i Wk ∧ Below Wk.heap.size Wk Uq1u3 ∧ (∀ k, F7 k → k < Uq1u3.heap.size ∧ (AtB X g k ∨ Wk.heap.size ≤ k)) ∧ FdIs F7 Uq1u3 (.slice ya x.at_.length cy) (.slice yk x.ks.length dy) x.at_ x.ks) := (by obtain ⟨Wk, h1, h2, h3, h4⟩ := HS7.out; exact ⟨Wk, h1, h2.trans (hb.mono h2.size), fun k q => ⟨Nat.lt_of_lt_of_le (h3 k q).1 hb.size, (h3 k q).2⟩, h4.below hb⟩)
          replace HP7 : Hid (TrS w t (.slice aa t.at_.length ca) H (.slice ka E.length kc) E i Uq1u3) := HP7.out.below hb
          rw [← eW] at hHeld ⊢
          clear eW
          clear hbx
          obtain ⟨tb9, etb⟩ : ∃ b, b = Uq1u2.heap.size := ⟨_, rfl⟩
          rw [← etb] at HT ⊢
          clear etb
          clear hb
          refine wpAnyH_ready (rs := [5]) (by kernel_rfl) (by simp) ?_
          refine AllReadyH.cons (o := ⟨some 24, _, _, _, _, _⟩) rfl (fun K hK => ?_) AllReadyH.nil
          refine step_append_lies _ rfl _ _ 25 rfl (w.heap.size + 2) 27 i0 (.agg #[.int .i64 0, .int .i64 0, .string ⟨#[]⟩, .string ⟨#[]⟩, .slice none 0 0, .slice none 0 0]) 6 96 Try.underlying25 hin hz0 hz1 hz2 rfl (by decide) (.slice ka E.length kc) E.length (flatE vnC E) rfl HP7.out.row ⟨tb9, 0, none⟩ 1 1 (vnC (x, .slice ya x.at_.length cy, .slice yk x.ks.length dy)) rfl rfl (fun j u hj => by rw [Addr.add_lit, Nat.zero_add, cell_of_row _ tb9 _ _ _ _ HT.out]; simpa [vnC, ndC] using hj) (fun y hy => by simp [vnC, ndC] at hy; rcases hy with rfl | rfl | rfl | rfl | rfl | rfl <;> rfl) (by decide) (by have := HEl.out; have := Hbk.out; unfold maxLen; omega) (by have := HEl.out; have := Hbk.out; omega) (by have := row_lt HP7.out.ob; omega) Uq1u3.heap.size rfl ?_
          intro g3 c3 Uq1u4 hown3 hgr3 hat3 hlt3
          have hown4 : OwnE vnC 6 27 (w.heap.size + 2) Uq1u4 (.slice (some ⟨g3, 0, none⟩) (E.length + 1) c3) (E ++ [(x, .slice ya x.at_.length cy, .slice yk x.ks.length dy)]) := OwnE.snoc rfl hown3
          have hkb : ∀ k, Value.ownBlock (.slice ka E.length kc) = some k → w.heap.size + 2 ≤ k := fun k e => (OwnE.lt HP7.out.row k e).1
          have HW3 : Hid (Uq1u4.heap[w.heap.size + 1]? = some (.cells #[.int .i64 t.k.1, .int .i64 t.k.2, .string t.tg, .string t.tx, .slice aa t.at_.length ca, .slice ka E.length kc] 27)) := (hgr3.block _ (row_lt HP7.out.ob) (fun e => by have := hkb _ e.symm; omega)).trans HP7.out.ob
          have HG3 : Hid (TrG X g Uq1u4) := HG.out.grown hgr3 (fun b hb e => HTy.out (.slice ka E.length kc) Uq1u3 E HP7.out b hb e) (fun k hk e => by have := hkb k e; have := Hlow.out k hk; omega)
          have HPn : Hid (∃ H2, TrS w t (.slice aa t.at_.length ca) H2 (.slice (some ⟨g3, 0, none⟩) (E.length + 1) c3) (E ++ [(x, .slice ya x.at_.length cy, .slice yk x.ks.length dy)]) (i + 1) (Uq1u4.setCell ⟨w.heap.size + 1, 5, none⟩ (.slice (some ⟨g3, 0, none⟩) (E.length + 1) c3)) ∧ ∀ k, H2 k → AtB X g k ∨ w.heap.size ≤ k) := (by obtain ⟨Wk, h1, h2, h3, h4⟩ := HS7.out; refine ⟨_, h1.push hlt Hx.out h2 (fun k q => ⟨(h3 k q).1, (h3 k q).2.imp (Hlow.out k) id⟩) h4 hown4 hgr3 (hat3.elim (fun e => .inl e.symm) (fun e => .inr (by rw [e]; rfl))), fun k q => q.elim (HH.out k) (fun q => (h3 k q).2.imp id (fun q => Nat.le_trans h1.bel.size q))⟩)
          have hS3 : Uq1u4.heap[w.heap.size]? = some (.cells #[.int .i64 0, .int .i64 0, .string ⟨#[]⟩, .string ⟨#[]⟩, .slice none 0 0, .slice none 0 0] 27) := (hgr3.block _ (row_lt HP7.out.rb) (fun e => by have := hkb _ e.symm; omega)).trans HP7.out.rb
          clear hown3 hown4 hgr3 hat3 hlt3 HS7 HP7 HT hkb HG
          refine hK.out _ _ (hS3) (fun hHeld2 => ?_)
          clear hK K hHeld
          have hHeld := hHeld2
          clear hHeld2
          (try simp only [Act.put, List.setIfInBounds_toArray, List.set_cons_zero, List.set_cons_succ])
          clear hS3
          refine tkW 6 (some 25) (v := ?_) ?_ hHeld ?_
          rotate_left
          · (intro ww _; go_simp; try with_reducible rfl)
          refine wpAnyH_ready (rs := [7]) (by kernel_rfl) (by simp) ?_
          refine AllReadyH.cons (o := ⟨none, _, _, _, _, _⟩) rfl (fun K hK => ?_) AllReadyH.nil
          have o5 := (row6 HW3.out).2.2.2.2.2
          have o6 := row6f HW3.out 5
          go_simp
          refine hK.out _ _ ((by obtain ⟨_, h9, _⟩ := HPn.out; exact h9.rb)) (fun hHeld2 => ?_)
          clear hK K hHeld
          have hHeld := hHeld2
          clear hHeld2
          (try simp only [Act.put, List.setIfInBounds_toArray, List.set_cons_zero, List.set_cons_succ])
          obtain ⟨Uq1u5, eWn⟩ : ∃ X, X = Uq1u4.setCell ⟨w.heap.size + 1, 5, none⟩ (.slice (some ⟨g3, 0, none⟩) (E.length + 1) c3) := ⟨_, rfl⟩
          have HG4 : Hid (TrG X g Uq1u5) := (by rw [eWn]; exact HG3.out.set (HTo.out Uq1u4 HW3.out) (fun e => by have := Hlow.out _ e; omega))
          rw [← eWn] at HPn hHeld ⊢
          clear eWn o5 o6 HW3 HG3
          refine wpAnyH_done (by kernel_rfl) ?_ _
          clear hHeld
          obtain ⟨H2, hpn, hh2⟩ := HPn.out
          have HP9 := hide9 hpn
          have HH9 := hide9 hh2
          clear hpn HPn hh2
          have p8 : Uq1u5.cell? ⟨c, 8, none⟩ = some (ptr (((g.C n).drop (i + 1)).head?)) := (by have h9 := HG4.out.mem.cnx HcX.out; rw [Hnx.out] at h9; exact h9)
          go_wp2
          go_roundg (t.ks.length - (i + 1))
          case measure => omega
          case rel => exact ⟨i + 1, _, _, H2, (by rw [List.head?_drop]), by omega, rfl, HG4, HP9, HH9⟩
        · go_simp
          refine (ih x c _ Hsz.out HG.out HcX.out Hcr.out Hbx.out).mono ?_
          rintro e Uq1u6 ⟨v7, F7, rfl, hv7, hF7, hb⟩
          obtain ⟨ya, cy, yk, dy, e7, fy⟩ := hv7.form
          subst e7
          have HS7 : Hid (∃ Wk, TrS w t (.slice aa t.at_.length ca) H (.slice ka E.length kc) E i Wk ∧ Below Wk.heap.size Wk Uq1u6 ∧ (∀ k, F7 k → k < Uq1u6.heap.size ∧ (AtB X g k ∨ Wk.heap.size ≤ k)) ∧ FdIs F7 Uq1u6 (.slice ya x.at_.length cy) (.slice yk x.ks.length dy) x.at_ x.ks) := ⟨_, HP.out, hb, hF7, fy⟩
          have HP7 : Hid (TrS w t (.slice aa t.at_.length ca) H (.slice ka E.length kc) E i Uq1u6) := HP.out.below hb
          replace HG : Hid (TrG X g Uq1u6) := HG.out.below hb
          clear hv7 hF7 fy HP
          (try go_wp2_with fail)
          refine hK.out _ _ (HP7.out.rb) (fun hHeld2 => ?_)
          clear hK K hHeld
          have hHeld := hHeld2
          clear hHeld2
          (try simp only [Act.put, List.setIfInBounds_toArray, List.set_cons_zero, List.set_cons_succ])
          clear hb
          refine wpAnyH_ready (rs := [1, 4]) (by kernel_rfl) (by simp) ?_
          refine AllReadyH.cons (o := ⟨some 20, _, _, _, _, _⟩) rfl (fun K hK => ?_) (AllReadyH.cons (o := ⟨some 23, _, _, _, _, _⟩) rfl (fun K hK => ?_) AllReadyH.nil)
          · have q5 := (row6 HP7.out.ob).2.2.2.2.2
            go_simp
            refine hK.out _ _ (hHeld) (fun hHeld2 => ?_)
            clear hK K hHeld
            have hHeld := hHeld2
            clear hHeld2
            (try simp only [Act.put, List.setIfInBounds_toArray, List.set_cons_zero, List.set_cons_succ])
            clear q5
            refine wpAnyH_ready (rs := [4]) (by kernel_rfl) (by simp) ?_
            refine AllReadyH.cons (o := ⟨some 23, _, _, _, _, _⟩) rfl (fun K hK => ?_) AllReadyH.nil
            have hbx : Below Uq1u6.heap.size Uq1u6 (Uq1u6.alloc (.cells #[.int .i64 x.k.1, .int .i64 x.k.2, .string x.tg, .string x.tx, .slice ya x.at_.length cy, .slice yk x.ks.length dy] 27)) := (Below.refl _ _).alloc (Nat.le_refl _) _
            go_simp
            refine hK.out _ _ ((hbx.block _ (row_lt hHeld)).trans hHeld) (fun hHeld2 => ?_)
            clear hK K hHeld
            have hHeld := hHeld2
            clear hHeld2
            (try simp only [Act.put, List.setIfInBounds_toArray, List.set_cons_zero, List.set_cons_succ])
            obtain ⟨Uq1u8, eW⟩ : ∃ X, X = Uq1u6.alloc (.cells #[.int .i64 x.k.1, .int .i64 x.k.2, .string x.tg, .string x.tx, .slice ya x.at_.length cy, .slice yk x.ks.length dy] 27) := ⟨_, rfl⟩
            have hb : Below Uq1u6.heap.size Uq1u6 Uq1u8 := by rw [eW]; exact (Below.refl _ _).alloc (Nat.le_refl _) _
            replace HG : Hid (TrG X g Uq1u8) := HG.out.below hb
            have HT : Hid (Uq1u8.heap[Uq1u6.heap.size]? = some (.cells #[.int .i64 x.k.1, .int .i64 x.k.2, .string x.tg, .string x.tx, .slice ya x.at_.length cy, .slice yk x.ks.length dy] 27)) := (by rw [eW]; exact heap_alloc_new _ _)
            replace HS7 : Hid (∃ Wk, TrS w t (.slice aa t.at_.length ca) H (.slice ka E.length kc) E i Wk ∧ Below Wk.heap.size Wk Uq1u8 ∧ (∀ k, F7 k → k < Uq1u8.heap.size ∧ (AtB X g k ∨ Wk.heap.size ≤ k)) ∧ FdIs F7 Uq1u8 (.slice ya x.at_.length cy) (.slice yk x.ks.length dy) x.at_ x.ks) := (by obtain ⟨Wk, h1, h2, h3, h4⟩ := HS7.out; exact ⟨Wk, h1, h2.trans (hb.mono h2.size), fun k q => ⟨Nat.lt_of_lt_of_le (h3 k q).1 hb.size, (h3 k q).2⟩, h4.below hb⟩)
            replace HP7 : Hid (TrS w t (.slice aa t.at_.length ca) H (.slice ka E.length kc) E i Uq1u8) := HP7.out.below hb
            rw [← eW] at hHeld ⊢
            clear eW
            clear hbx
            obtain ⟨tb9, etb⟩ : ∃ b, b = Uq1u6.heap.size := ⟨_, rfl⟩
            rw [← etb] at HT ⊢
            clear etb
            clear hb
            refine wpAnyH_ready (rs := [5]) (by kernel_rfl) (by simp) ?_
            refine AllReadyH.cons (o := ⟨some 24, _, _, _, _, _⟩) rfl (fun K hK => ?_) AllReadyH.nil
            refine step_append_lies _ rfl _ _ 25 rfl (w.heap.size + 2) 27 i0 (.agg #[.int .i64 0, .int .i64 0, .string ⟨#[]⟩, .string ⟨#[]⟩, .slice none 0 0, .slice none 0 0]) 6 96 Try.underlying25 hin hz0 hz1 hz2 rfl (by decide) (.slice ka E.length kc) E.length (flatE vnC E) rfl HP7.out.row ⟨tb9, 0, none⟩ 1 1 (vnC (x, .slice ya x.at_.length cy, .slice yk x.ks.length dy)) rfl rfl (fun j u hj => by rw [Addr.add_lit, Nat.zero_add, cell_of_row _ tb9 _ _ _ _ HT.out]; simpa [vnC, ndC] using hj) (fun y hy => by simp [vnC, ndC] at hy; rcases hy with rfl | rfl | rfl | rfl | rfl | rfl <;> rfl) (by decide) (by have := HEl.out; have := Hbk.out; unfold maxLen; omega) (by have := HEl.out; have := Hbk.out; omega) (by have := row_lt HP7.out.ob; omega) Uq1u8.heap.size rfl ?_
            intro g3 c3 Uq1u9 hown3 hgr3 hat3 hlt3
            have hown4 : OwnE vnC 6 27 (w.heap.size + 2) Uq1u9 (.slice (some ⟨g3, 0, none⟩) (E.length + 1) c3) (E ++ [(x, .slice ya x.at_.length cy, .slice yk x.ks.length dy)]) := OwnE.snoc rfl hown3
            have hkb : ∀ k, Value.ownBlock (.slice ka E.length kc) = some k → w.heap.size + 2 ≤ k := fun k e => (OwnE.lt HP7.out.row k e).1
            have HW3 : Hid (Uq1u9.heap[w.heap.size + 1]? = some (.cells #[.int .i64 t.k.1, .int .i64 t.k.2, .string t.tg, .string t.tx, .slice aa t.at_.length ca, .slice ka E.length kc] 27)) := (hgr3.block _ (row_lt HP7.out.ob) (fun e => by have := hkb _ e.symm; omega)).trans HP7.out.ob
            have HG3 : Hid (TrG X g Uq1u9) := HG.out.grown hgr3 (fun b hb e => HTy.out (.slice ka E.length kc) Uq1u8 E HP7.out b hb e) (fun k hk e => by have := hkb k e; have := Hlow.out k hk; omega)
            have HPn : Hid (∃ H2, TrS w t (.slice aa t.at_.length ca) H2 (.slice (some ⟨g3, 0, none⟩) (E.length + 1) c3) (E ++ [(x, .slice ya x.at_.length cy, .slice yk x.ks.length dy)]) (i + 1) (Uq1u9.setCell ⟨w.heap.size + 1, 5, none⟩ (.slice (some ⟨g3, 0, none⟩) (E.length + 1) c3)) ∧ ∀ k, H2 k → AtB X g k ∨ w.heap.size ≤ k) := (by obtain ⟨Wk, h1, h2, h3, h4⟩ := HS7.out; refine ⟨_, h1.push hlt Hx.out h2 (fun k q => ⟨(h3 k q).1, (h3 k q).2.imp (Hlow.out k) id⟩) h4 hown4 hgr3 (hat3.elim (fun e => .inl e.symm) (fun e => .inr (by rw [e]; rfl))), fun k q => q.elim (HH.out k) (fun q => (h3 k q).2.imp id (fun q => Nat.le_trans h1.bel.size q))⟩)
            have hS3 : Uq1u9.heap[w.heap.size]? = some (.cells #[.int .i64 0, .int .i64 0, .string ⟨#[]⟩, .string ⟨#[]⟩, .slice none 0 0, .slice none 0 0] 27) := (hgr3.block _ (row_lt HP7.out.rb) (fun e => by have := hkb _ e.symm; omega)).trans HP7.out.rb
            clear hown3 hown4 hgr3 hat3 hlt3 HS7 HP7 HT hkb HG
            refine hK.out _ _ (hS3) (fun hHeld2 => ?_)
            clear hK K hHeld
            have hHeld := hHeld2
            clear hHeld2
            (try simp only [Act.put, List.setIfInBounds_toArray, List.set_cons_zero, List.set_cons_succ])
            clear hS3
            refine tkW 6 (some 25) (v := ?_) ?_ hHeld ?_
            rotate_left
            · (intro ww _; go_simp; try with_reducible rfl)
            refine wpAnyH_ready (rs := [7]) (by kernel_rfl) (by simp) ?_
            refine AllReadyH.cons (o := ⟨none, _, _, _, _, _⟩) rfl (fun K hK => ?_) AllReadyH.nil
            have o5 := (row6 HW3.out).2.2.2.2.2
            have o6 := row6f HW3.out 5
            go_simp
            refine hK.out _ _ ((by obtain ⟨_, h9, _⟩ := HPn.out; exact h9.rb)) (fun hHeld2 => ?_)
            clear hK K hHeld
            have hHeld := hHeld2
            clear hHeld2
            (try simp only [Act.put, List.setIfInBounds_toArray, List.set_cons_zero, List.set_cons_succ])
            obtain ⟨Uq1u10, eWn⟩ : ∃ X, X = Uq1u9.setCell ⟨w.heap.size + 1, 5, none⟩ (.slice (some ⟨g3, 0, none⟩) (E.length + 1) c3) := ⟨_, rfl⟩
            have HG4 : Hid (TrG X g Uq1u10) := (by rw [eWn]; exact HG3.out.set (HTo.out Uq1u9 HW3.out) (fun e => by have := Hlow.out _ e; omega))
            rw [← eWn] at HPn hHeld ⊢
            clear eWn o5 o6 HW3 HG3
            refine wpAnyH_done (by kernel_rfl) ?_ _
            clear hHeld
            obtain ⟨H2, hpn, hh2⟩ := HPn.out
            have HP9 := hide9 hpn
            have HH9 := hide9 hh2
            clear hpn HPn hh2
            have p8 : Uq1u10.cell? ⟨c, 8, none⟩ = some (ptr (((g.C n).drop (i + 1)).head?)) := (by have h9 := HG4.out.mem.cnx HcX.out; rw [Hnx.out] at h9; exact h9)
            go_wp2
            go_roundg (t.ks.length - (i + 1))
            case measure => omega
            case rel => exact ⟨i + 1, _, _, H2, (by rw [List.head?_drop]), by omega, rfl, HG4, HP9, HH9⟩
          · have hbx : Below Uq1u6.heap.size Uq1u6 (Uq1u6.alloc (.cells #[.int .i64 x.k.1, .int .i64 x.k.2, .string x.tg, .string x.tx, .slice ya x.at_.length cy, .slice yk x.ks.length dy] 27)) := (Below.refl _ _).alloc (Nat.le_refl _) _
            go_simp
            refine hK.out _ _ ((hbx.block _ (row_lt hHeld)).trans hHeld) (fun hHeld2 => ?_)
            clear hK K hHeld
            have hHeld := hHeld2
            clear hHeld2
            (try simp only [Act.put, List.setIfInBounds_toArray, List.set_cons_zero, List.set_cons_succ])
            obtain ⟨Uq1u11, eW⟩ : ∃ X, X = Uq1u6.alloc (.cells #[.int .i64 x.k.1, .int .i64 x.k.2, .string x.tg, .string x.tx, .slice ya x.at_.length cy, .slice yk x.ks.length dy] 27) := ⟨_, rfl⟩
            have hb : Below Uq1u6.heap.size Uq1u6 Uq1u11 := by rw [eW]; exact (Below.refl _ _).alloc (Nat.le_refl _) _
            replace HG : Hid (TrG X g Uq1u11) := HG.out.below hb
            have HT : Hid (Uq1u11.heap[Uq1u6.heap.size]? = some (.cells #[.int .i64 x.k.1, .int .i64 x.k.2, .string x.tg, .string x.tx, .slice ya x.at_.length cy, .slice yk x.ks.length dy] 27)) := (by rw [eW]; exact heap_alloc_new _ _)
            replace HS7 : Hid (∃ Wk, TrS w t (.slice aa t.at_.length ca) H (.slice ka E.length kc) E i Wk ∧ Below Wk.heap.size Wk Uq1u11 ∧ (∀ k, F7 k → k < Uq1u11.heap.size ∧ (AtB X g k ∨ Wk.heap.size ≤ k)) ∧ FdIs F7 Uq1u11 (.slice ya x.at_.length cy) (.slice yk x.ks.length dy) x.at_ x.ks) := (by obtain ⟨Wk, h1, h2, h3, h4⟩ := HS7.out; exact ⟨Wk, h1, h2.trans (hb.mono h2.size), fun k q => ⟨Nat.lt_of_lt_of_le (h3 k q).1 hb.size, (h3 k q).2⟩, h4.below hb⟩)
            replace HP7 : Hid (TrS w t (.slice aa t.at_.length ca) H (.slice ka E.length kc) E i Uq1u11) := HP7.out.below hb
            rw [← eW] at hHeld ⊢
            clear eW
            clear hbx
            obtain ⟨tb9, etb⟩ : ∃ b, b = Uq1u6.heap.size := ⟨_, rfl⟩
            rw [← etb] at HT ⊢
            clear etb
            clear hb
            refine wpAnyH_ready (rs := [1]) (by kernel_rfl) (by simp) ?_
            refine AllReadyH.cons (o := ⟨some 20, _, _, _, _, _⟩) rfl (fun K hK => ?_) AllReadyH.nil
            have q5 := (row6 HP7.out.ob).2.2.2.2.2
            go_simp
            refine hK.out _ _ (hHeld) (fun hHeld2 => ?_)
            clear hK K hHeld
            have hHeld := hHeld2
            clear hHeld2
            (try simp only [Act.put, List.setIfInBounds_toArray, List.set_cons_zero, List.set_cons_succ])
            clear q5
            refine wpAnyH_ready (rs := [5]) (by kernel_rfl) (by simp) ?_
            refine AllReadyH.cons (o := ⟨some 24, _, _, _, _, _⟩) rfl (fun K hK => ?_) AllReadyH.nil
            refine step_append_lies _ rfl _ _ 25 rfl (w.heap.size + 2) 27 i0 (.agg #[.int .i64 0, .int .i64 0, .string ⟨#[]⟩, .string ⟨#[]⟩, .slice none 0 0, .slice none 0 0]) 6 96 Try.underlying25 hin hz0 hz1 hz2 rfl (by decide) (.slice ka E.length kc) E.length (flatE vnC E) rfl HP7.out.row ⟨tb9, 0, none⟩ 1 1 (vnC (x, .slice ya x.at_.length cy, .slice yk x.ks.length dy)) rfl rfl (fun j u hj => by rw [Addr.add_lit, Nat.zero_add, cell_of_row _ tb9 _ _ _ _ HT.out]; simpa [vnC, ndC] using hj) (fun y hy => by simp [vnC, ndC] at hy; rcases hy with rfl | rfl | rfl | rfl | rfl | rfl <;> rfl) (by decide) (by have := HEl.out; have := Hbk.out; unfold maxLen; omega) (by have := HEl.out; have := Hbk.out; omega) (by have := row_lt HP7.out.ob; omega) Uq1u11.heap.size rfl ?_
            intro g3 c3 Uq1u13 hown3 hgr3 hat3 hlt3
            have hown4 : OwnE vnC 6 27 (w.heap.size + 2) Uq1u13 (.slice (some ⟨g3, 0, none⟩) (E.length + 1) c3) (E ++ [(x, .slice ya x.at_.length cy, .slice yk x.ks.length dy)]) := OwnE.snoc rfl hown3
            have hkb : ∀ k, Value.ownBlock (.slice ka E.length kc) = some k → w.heap.size + 2 ≤ k := fun k e => (OwnE.lt HP7.out.row k e).1
            have HW3 : Hid (Uq1u13.heap[w.heap.size + 1]? = some (.cells #[.int .i64 t.k.1, .int .i64 t.k.2, .string t.tg, .string t.tx, .slice aa t.at_.length ca, .slice ka E.length kc] 27)) := (hgr3.block _ (row_lt HP7.out.ob) (fun e => by have := hkb _ e.symm; omega)).trans HP7.out.ob
            have HG3 : Hid (TrG X g Uq1u13) := HG.out.grown hgr3 (fun b hb e => HTy.out (.slice ka E.length kc) Uq1u11 E HP7.out b hb e) (fun k hk e => by have := hkb k e; have := Hlow.out k hk; omega)
            have HPn : Hid (∃ H2, TrS w t (.slice aa t.at_.length ca) H2 (.slice (some ⟨g3, 0, none⟩) (E.length + 1) c3) (E ++ [(x, .slice ya x.at_.length cy, .slice yk x.ks.length dy)]) (i + 1) (Uq1u13.setCell ⟨w.heap.size + 1, 5, none⟩ (.slice (some ⟨g3, 0, none⟩) (E.length + 1) c3)) ∧ ∀ k, H2 k → AtB X g k ∨ w.heap.size ≤ k) := (by obtain ⟨Wk, h1, h2, h3, h4⟩ := HS7.out; refine ⟨_, h1.push hlt Hx.out h2 (fun k q => ⟨(h3 k q).1, (h3 k q).2.imp (Hlow.out k) id⟩) h4 hown4 hgr3 (hat3.elim (fun e => .inl e.symm) (fun e => .inr (by rw [e]; rfl))), fun k q => q.elim (HH.out k) (fun q => (h3 k q).2.imp id (fun q => Nat.le_trans h1.bel.size q))⟩)
            have hS3 : Uq1u13.heap[w.heap.size]? = some (.cells #[.int .i64 0, .int .i64 0, .string ⟨#[]⟩, .string ⟨#[]⟩, .slice none 0 0, .slice none 0 0] 27) := (hgr3.block _ (row_lt HP7.out.rb) (fun e => by have := hkb _ e.symm; omega)).trans HP7.out.rb
            clear hown3 hown4 hgr3 hat3 hlt3 HS7 HP7 HT hkb HG
            refine hK.out _ _ (hS3) (fun hHeld2 => ?_)
            clear hK K hHeld
            have hHeld := hHeld2
            clear hHeld2
            (try simp only [Act.put, List.setIfInBounds_toArray, List.set_cons_zero, List.set_cons_succ])
            clear hS3
            refine tkW 6 (some 25) (v := ?_) ?_ hHeld ?_
            rotate_left
            · (intro ww _; go_simp; try with_reducible rfl)
            refine wpAnyH_ready (rs := [7]) (by kernel_rfl) (by simp) ?_
            refine AllReadyH.cons (o := ⟨none, _, _, _, _, _⟩) rfl (fun K hK => ?_) AllReadyH.nil
            have o5 := (row6 HW3.out).2.2.2.2.2
            have o6 := row6f HW3.out 5
            go_simp
            refine hK.out _ _ ((by obtain ⟨_, h9, _⟩ := HPn.out; exact h9.rb)) (fun hHeld2 => ?_)
            clear hK K hHeld
            have hHeld := hHeld2
            clear hHeld2
            (try simp only [Act.put, List.setIfInBounds_toArray, List.set_cons_zero, List.set_cons_succ])
            obtain ⟨Uq1u14, eWn⟩ : ∃ X, X = Uq1u13.setCell ⟨w.heap.size + 1, 5, none⟩ (.slice (some ⟨g3, 0, none⟩) (E.length + 1) c3) := ⟨_, rfl⟩
            have HG4 : Hid (TrG X g Uq1u14) := (by rw [eWn]; exact HG3.out.set (HTo.out Uq1u13 HW3.out) (fun e => by have := Hlow.out _ e; omega))
            rw [← eWn] at HPn hHeld ⊢
            clear eWn o5 o6 HW3 HG3
            refine wpAnyH_done (by kernel_rfl) ?_ _
            clear hHeld
            obtain ⟨H2, hpn, hh2⟩ := HPn.out
            have HP9 := hide9 hpn
            have HH9 := hide9 hh2
            clear hpn HPn hh2
            have p8 : Uq1u14.cell? ⟨c, 8, none⟩ = some (ptr (((g.C n).drop (i + 1)).head?)) := (by have h9 := HG4.out.mem.cnx HcX.out; rw [Hnx.out] at h9; exact h9)
            go_wp2
            go_roundg (t.ks.length - (i + 1))
            case measure => omega
            case rel => exact ⟨i + 1, _, _, H2, (by rw [List.head?_drop]), by omega, rfl, HG4, HP9, HH9⟩
      · obtain rfl : i = t.ks.length := by omega
        have hp0 : ptr (((g.C n).drop t.ks.length).head?) = .pointer none := (by rw [← Hlen.out, List.drop_length]; rfl)
        rw [hp0]
        clear hp0
        obtain ⟨ka, kc, ekv⟩ := OwnE.form HP.out.row
        subst ekv
        obtain ⟨n0, n1, n2, n3, n4, n5⟩ := row6 HP.out.ob
        have HEl : Hid (E.length = t.ks.length) := hide9 (by have h9 := congrArg List.length HP.out.es; rw [List.length_map, List.length_take] at h9; omega)
        have hat := HG.out.at_ n HX.out
        rw [Hno.out, Hav.out] at hat
        have hdn := HP.out.done (by have := Hbk.out; omega) (by have := Hbn.out; omega) hat
        have HE : Hid ((wr.setRow w.heap.size #[.int .i64 t.k.1, .int .i64 t.k.2, .string t.tg, .string t.tx, .slice aa t.at_.length ca, .slice ka E.length kc]).heap[w.heap.size]? = some (.cells #[.int .i64 t.k.1, .int .i64 t.k.2, .string t.tg, .string t.tx, .slice aa t.at_.length ca, .slice ka E.length kc] 27)) := setRow_same HP.out.rb
        have HRr := hide9 HP.out.rb
        have HB : Hid (Below w.heap.size w (wr.setRow w.heap.size #[.int .i64 t.k.1, .int .i64 t.k.2, .string t.tg, .string t.tx, .slice aa t.at_.length ca, .slice ka E.length kc])) := HP.out.bel.grown (grown_setRow _ _ _) HP.out.bel.size (fun k e => by cases e; exact Nat.le_refl _)
        have HFf : Hid (FdIs (fun k => H k ∨ Value.ownBlock (.slice ka E.length kc) = some k ∨ Value.ownBlock (.slice aa t.at_.length ca) = some k) (wr.setRow w.heap.size #[.int .i64 t.k.1, .int .i64 t.k.2, .string t.tg, .string t.tx, .slice aa t.at_.length ca, .slice ka E.length kc]) (.slice aa t.at_.length ca) (.slice ka E.length kc) t.at_ t.ks ∧ ∀ k, (H k ∨ Value.ownBlock (.slice ka E.length kc) = some k ∨ Value.ownBlock (.slice aa t.at_.length ca) = some k) → k < wr.heap.size ∧ (AtB X g k ∨ w.heap.size ≤ k)) := (by have hq : ∀ k, (H k ∨ Value.ownBlock (.slice ka E.length kc) = some k ∨ Value.ownBlock (.slice aa t.at_.length ca) = some k) → k ≠ w.heap.size ∧ k < wr.heap.size ∧ (AtB X g k ∨ w.heap.size ≤ k) := (fun k q => by rcases q with q | q | q; (have h9 := HP.out.hH k q; exact ⟨by omega, h9.1, HH.out k q⟩); (have h9 := OwnE.lt HP.out.row k q; exact ⟨by omega, h9.2, .inr (by omega)⟩); (have h8 : AtB X g k := ⟨n, HX.out, by rw [Hav.out]; exact q⟩; have h9 := Hlow.out k h8; have h7 := HP.out.bel.size; exact ⟨by omega, by omega, .inl h8⟩)); exact ⟨hdn.turn (by simp) (fun k q _ => ⟨q, setRow_other _ _ _ _ (hq k q).1⟩), fun k q => (hq k q).2⟩)
        clear hdn hat HP
        go_wp2_with (refine wpList_store_row rfl 27 (.tmp 2) (.tmp 26) rfl w.heap.size 27 #[.int .i64 0, .int .i64 0, .string ⟨#[]⟩, .string ⟨#[]⟩, .slice none 0 0, .slice none 0 0] #[.int .i64 t.k.1, .int .i64 t.k.2, .string t.tg, .string t.tx, .slice aa t.at_.length ca, .slice ka E.length kc] rfl rfl HRr.out sizeVN rfl (by simp [Value.oneCell']) ?_)
        (try rw [Exit.noGoto_ret])
        refine bodyPost_ret (results_cell_row rfl _ _ w.heap.size _ _ _ _ rfl HE.out Try.underlying27 rfl sizeVN) rfl ?_
        exact ⟨_, _, rfl, ⟨_, _, rfl, HFf.out.1⟩, fun k q => ⟨by simp; exact (HFf.out.2 k q).1, (HFf.out.2 k q).2⟩, HB.out⟩

end Go.Proofs.Ytccpljllgpabnab
