/- The document's Check. -/
import Derived.Test.YtccpljllgpabnaaVtQ
import Derived.Test.YtccpljllgpabnaaVtP
import Derived.Test.YtccpljllgpabnaaVtF
import Derived.Deep.AppendLies
import Derived.Deep.Cut
namespace Go.Proofs.Ytccpljllgpabnaa
open Go.RowKit
set_option linter.unusedVariables false
set_option linter.unusedSimpArgs false

/-- Why nodes laid flat are not right. -/
def chk2 (seen : List St) (i : Nat) : List VT → Int
  | [] => 0
  | x :: r => if keyB i x.k = false then 2 else if hasS seen x.k = true then 5 else if chkN x ≠ 0 then chkN x else chk2 (seen ++ [x.k]) (i + 1) r
theorem flatD_n : ∀ (n : Nat), (∀ t d, VT.sz t ≤ n → (flatD t d).map Prod.snd = flT t ∧ ∀ x ∈ flatD t d, d ≤ x.1) ∧ (∀ l d, szs l ≤ n → (flatDs l d).map Prod.snd = flTs l ∧ ∀ x ∈ flatDs l d, d ≤ x.1)
  | 0 => ⟨fun t d h => by have := t.sz_pos; omega, fun l d h => by
      cases l with
      | nil => simp [flTs, flatDs]
      | cons x r => have := x.sz_pos; rw [szs] at h; omega⟩
  | n + 1 => by
    have ih := flatD_n n
    have h1 : ∀ t d, VT.sz t ≤ n + 1 → (flatD t d).map Prod.snd = flT t ∧ ∀ x ∈ flatD t d, d ≤ x.1 := fun t d h => by
      have h2 := ih.2 t.ks (d + 1) (by have := t.sz_eq; omega)
      rw [flT_eq, flatD_eq, List.map_cons, h2.1]
      exact ⟨rfl, fun x hx => by
        rcases List.mem_cons.1 hx with rfl | hx
        · exact Nat.le_refl _
        · have := h2.2 x hx; omega⟩
    refine ⟨h1, fun l => ?_⟩
    induction l with
    | nil => intro _ _; simp [flTs, flatDs]
    | cons x r ihr =>
      intro d h
      rw [szs] at h
      have a1 := h1 x d (by omega)
      have a2 := ihr d (by omega)
      rw [flTs, flatDs, List.map_append, a1.1, a2.1]
      exact ⟨rfl, fun y hy => (List.mem_append.1 hy).elim (a1.2 y) (a2.2 y)⟩
theorem flatD_snd (t : VT) (d : Nat) : (flatD t d).map Prod.snd = flT t := ((flatD_n t.sz).1 t d (Nat.le_refl _)).1
theorem chkR_pos : ∀ (l : List (Nat × VT)) (seen : List St) (i : Nat), (∀ x ∈ l, 1 ≤ x.1) → chkR seen l = chk2 seen (i + 1) (l.map Prod.snd)
  | [], _, _, _ => rfl
  | x :: r, seen, i, h => by
    have hx := h x (List.mem_cons_self)
    have hk : keyB x.1 x.2.k = keyB (i + 1) x.2.k := (by unfold keyB; rw [if_neg (by omega), if_neg (by omega)])
    rw [chkR, List.map_cons, chk2, hk, chkR_pos r _ (i + 1) (fun y hy => h y (List.mem_cons_of_mem _ hy))]
theorem chkR_flat (t : VT) : chkR [] (flatD t 0) = chk2 [] 0 (flT t) := by
  have h2 := (flatD_n (szs t.ks)).2 t.ks 1 (Nat.le_refl _)
  rw [flatD_eq, flT_eq, chkR, chk2, chkR_pos _ _ 0 h2.2, h2.1]
theorem BnA.flat {t : VT} (h : BnA t) : ∀ x ∈ flT t, BnT x := fun x hx => by
  rw [← flatD_snd t 0] at hx
  obtain ⟨y, hy, rfl⟩ := List.mem_map.1 hx
  exact h y hy
def kO (x : VT × Value × Value) : St := x.1.k
theorem infoSk : (Try.prog.info? 23).map (fun i => (i.zero, i.size, i.bytes)) = some (some (.agg #[.int .i64 0, .int .i64 0]), 2, 16) := by kernel_rfl
/-- What stands in Check's loop. -/
structure CkS (w1 : World) (t : VT) (L : List (VT × Value × Value)) (W : World) (v : Value) (i : Nat) : Prop where
  row : OwnSt w1.heap.size W v ((L.take i).map kO)
  bel : Below w1.heap.size w1 W
  eq : chk2 [] 0 (flT t) = chk2 ((L.take i).map kO) i ((flT t).drop i)
  nn : ∃ g c, v = .slice (some ⟨g, 0, none⟩) i c
theorem CkS.next {w1 : World} {t : VT} {L : List (VT × Value × Value)} {W W' : World} {v : Value} {i : Nat} (h : CkS w1 t L W v i) (hb : Below W.heap.size W W') : CkS w1 t L W' v i := ⟨h.row.below hb, h.bel.trans (hb.mono h.bel.size), h.eq, h.nn⟩
theorem CkS.at {w1 : World} {t : VT} {L : List (VT × Value × Value)} {W : World} {v : Value} {i : Nat} (h : CkS w1 t L W v i) (hL : L.map Prod.fst = flT t) (hi : i < L.length) : chk2 [] 0 (flT t) = if keyB i L[i].1.k = false then 2 else if hasS ((L.take i).map kO) L[i].1.k = true then 5 else if chkN L[i].1 ≠ 0 then chkN L[i].1 else chk2 ((L.take (i + 1)).map kO) (i + 1) ((flT t).drop (i + 1)) := by
  have h1 := h.eq
  have hj : i < (flT t).length := (by rw [← hL, List.length_map]; exact hi)
  have he : (flT t)[i] = L[i].1 := (by simp only [← hL, List.getElem_map])
  rw [List.drop_eq_getElem_cons hj, chk2, he] at h1
  rw [List.take_succ_eq_append_getElem hi, List.map_append]
  exact h1

theorem ckCells {w1 W : World} {g i : Nat} {a b : Value} {P : Prop} (hb : Below w1.heap.size w1 W) (h : g < w1.heap.size ∧ w1.cell? ⟨g, i * 6, none⟩ = some a ∧ w1.cell? ⟨g, i * 6 + 1, none⟩ = some b ∧ P) : W.cell? ⟨g, i * 6, none⟩ = some a ∧ W.cell? ⟨g, i * 6 + 1, none⟩ = some b := ⟨(hb.cell (p := ⟨g, i * 6, none⟩) h.1).trans h.2.1, (hb.cell (p := ⟨g, i * 6 + 1, none⟩) h.1).trans h.2.2.1⟩
theorem ckCells6 {w1 W : World} {g i : Nat} {a b c d e f : Value} (hb : Below w1.heap.size w1 W) (h : g < w1.heap.size ∧ w1.cell? ⟨g, i * 6, none⟩ = some a ∧ w1.cell? ⟨g, i * 6 + 1, none⟩ = some b ∧ w1.cell? ⟨g, i * 6 + 2, none⟩ = some c ∧ w1.cell? ⟨g, i * 6 + 3, none⟩ = some d ∧ w1.cell? ⟨g, i * 6 + 4, none⟩ = some e ∧ w1.cell? ⟨g, i * 6 + 5, none⟩ = some f) : W.cell? ⟨g, i * 6, none⟩ = some a ∧ W.cell? ⟨g, i * 6 + 1, none⟩ = some b ∧ W.cell? ⟨g, i * 6 + 2, none⟩ = some c ∧ W.cell? ⟨g, i * 6 + 3, none⟩ = some d ∧ W.cell? ⟨g, i * 6 + 4, none⟩ = some e ∧ W.cell? ⟨g, i * 6 + 5, none⟩ = some f :=
  ⟨(hb.cell (p := ⟨g, i * 6, none⟩) h.1).trans h.2.1, (hb.cell (p := ⟨g, i * 6 + 1, none⟩) h.1).trans h.2.2.1, (hb.cell (p := ⟨g, i * 6 + 2, none⟩) h.1).trans h.2.2.2.1, (hb.cell (p := ⟨g, i * 6 + 3, none⟩) h.1).trans h.2.2.2.2.1, (hb.cell (p := ⟨g, i * 6 + 4, none⟩) h.1).trans h.2.2.2.2.2.1, (hb.cell (p := ⟨g, i * 6 + 5, none⟩) h.1).trans h.2.2.2.2.2.2⟩

theorem ckCells0 {w1 W : World} {g : Nat} {a b : Value} {P : Prop} (hb : Below w1.heap.size w1 W) (h : g < w1.heap.size ∧ w1.cell? ⟨g, 0, none⟩ = some a ∧ w1.cell? ⟨g, 1, none⟩ = some b ∧ P) : W.cell? ⟨g, 0, none⟩ = some a ∧ W.cell? ⟨g, 1, none⟩ = some b := ⟨(hb.cell (p := ⟨g, 0, none⟩) h.1).trans h.2.1, (hb.cell (p := ⟨g, 1, none⟩) h.1).trans h.2.2.1⟩
theorem ckCells60 {w1 W : World} {g : Nat} {a b c d e f : Value} (hb : Below w1.heap.size w1 W) (h : g < w1.heap.size ∧ w1.cell? ⟨g, 0, none⟩ = some a ∧ w1.cell? ⟨g, 1, none⟩ = some b ∧ w1.cell? ⟨g, 2, none⟩ = some c ∧ w1.cell? ⟨g, 3, none⟩ = some d ∧ w1.cell? ⟨g, 4, none⟩ = some e ∧ w1.cell? ⟨g, 5, none⟩ = some f) : W.cell? ⟨g, 0, none⟩ = some a ∧ W.cell? ⟨g, 1, none⟩ = some b ∧ W.cell? ⟨g, 2, none⟩ = some c ∧ W.cell? ⟨g, 3, none⟩ = some d ∧ W.cell? ⟨g, 4, none⟩ = some e ∧ W.cell? ⟨g, 5, none⟩ = some f :=
  ⟨(hb.cell (p := ⟨g, 0, none⟩) h.1).trans h.2.1, (hb.cell (p := ⟨g, 1, none⟩) h.1).trans h.2.2.1, (hb.cell (p := ⟨g, 2, none⟩) h.1).trans h.2.2.2.1, (hb.cell (p := ⟨g, 3, none⟩) h.1).trans h.2.2.2.2.1, (hb.cell (p := ⟨g, 4, none⟩) h.1).trans h.2.2.2.2.2.1, (hb.cell (p := ⟨g, 5, none⟩) h.1).trans h.2.2.2.2.2.2⟩

set_option maxRecDepth 100000 in
set_option maxHeartbeats 4000000 in
theorem refCheck_any (G : Nat → Prop) (t : VT) (v : Value) (w : World) (h : VIs G w v t) (hsz : t.sz ≤ 1048576) (hbn : BnA t) : Calls Try.prog 20 #[v] w fun e w' => e = .returned (.int .i64 (chkT t)) ∧ Below w.heap.size w w' := by
  obtain ⟨aa, ca, ak, ck, e1, fd⟩ := h.form
  subst e1
  obtain ⟨W0, eW⟩ : ∃ X, X = (w.alloc (.cells #[.int .i64 t.k.1, .int .i64 t.k.2, .string t.tg, .string t.tx, .slice aa t.at_.length ca, .slice ak t.ks.length ck] 33)) := ⟨_, rfl⟩
  have hb0 : Below w.heap.size w W0 := (by rw [eW]; exact (Below.refl _ _).alloc (Nat.le_refl _) _)
  have HFd := hide9 (fd.below hb0)
  have HB := hide9 hb0
  have Hbn := hide9 hbn
  have HE := hide9 eW
  clear h fd hbn hb0 eW
  go_enter Try.func20, Try.ntmps20
  go_wp2_with fail
  rw [← HE.out]
  clear HE
  refine (flatF_any G t _ _ (VIs.of HFd.out) hsz).mono ?_
  clear HFd
  rintro e w1 ⟨v1, L, rfl, h1, h2, h3, h4⟩
  obtain ⟨a1, c1, e1⟩ := OwnE.form h1
  subst e1
  have hLl : L.length = t.sz := (by rw [← flT_len, ← h2, List.length_map])
  have HL := hide9 h1
  have HM := hide9 h2
  have HFs := hide9 h3
  have HB1 : Hid (Below w.heap.size w w1) := HB.out.trans (h4.mono HB.out.size)
  clear h1 h2 h3 h4 HB
  by_cases hbig : 8192 < t.sz
  · have HF : Hid (chkT t = 3) := if_pos hbig
    have q1 : (8192 : Int) < (L.length : Int) := by omega
    clear hbig hLl HM HFs HL
    go_wp2
    go_ret
    exact ⟨by rw [HF.out] <;> rfl, HB1.out⟩
  · have HC0 : Hid (chkT t = chk2 [] 0 (flT t)) := (if_neg hbig).trans (chkR_flat t)
    have hLs : L.length ≤ 8192 := by omega
    have q1 : ¬ (8192 : Int) < (L.length : Int) := by omega
    clear hbig hLl
    go_wp2
    go_loopw [4, 5] (fun sv iv wr => ∃ (i : Nat), iv = .int .i64 (i : Int) ∧ i ≤ L.length ∧ Hid (CkS w1 t L wr sv i)) (fun _ iv _ => L.length - (intOf iv).toNat)
    case atStart => exact ⟨0, rfl, Nat.zero_le _, ⟨World.ownsRow_made w1 #[] 0 (by omega) (by unfold maxLen; omega) (by simp), (Below.refl _ _).alloc (Nat.le_refl _) _, rfl, ⟨_, _, rfl⟩⟩⟩
    case round =>
      obtain ⟨i, rfl, hil, HS⟩ := hrel
      obtain ⟨gs, cs, es⟩ := HS.out.nn
      subst es
      by_cases hlt : i < L.length
      · obtain ⟨g, cap, eg, _, hcs, _⟩ := OwnE.cells vnC_len HL.out hlt
        injection eg with e1 _ e3
        subst e1
        clear e3
        have hgl := (OwnE.lt HL.out g rfl).2
        have hat := HS.out.at HM.out hlt
        have hfd := HFs.out _ (List.getElem_mem hlt)
        have hbx := Hbn.out.flat L[i].1 (by rw [← HM.out]; exact List.mem_map_of_mem (List.getElem_mem hlt))
        have p0 := hcs 0 _ rfl
        have p1 := hcs 1 _ rfl
        have p2 := hcs 2 _ rfl
        have p3 := hcs 3 _ rfl
        have p4 := hcs 4 _ rfl
        have p5 := hcs 5 _ rfl
        have hsn : (L.take (i + 1)).map kO = (L.take i).map kO ++ [L[i].1.k] := (by rw [List.take_succ_eq_append_getElem hlt, List.map_append]; rfl)
        have hDl : ((L.take i).map kO).length = i := (by rw [List.length_map, List.length_take]; omega)
        obtain ⟨y, ey⟩ : ∃ y, y = L[i] := ⟨_, rfl⟩
        rw [← ey] at hat hfd hbx p0 p1 p2 p3 p4 p5 hsn
        obtain ⟨x, xv, kv⟩ := y
        obtain ⟨xa, cx, e1⟩ := hfd.at_.form
        obtain ⟨xk, dx, e2⟩ := hfd.ks.form
        dsimp only at e1 e2
        subst e1 e2
        have Hfx : Hid (FdIs (fun k => k < W0.heap.size) w1 (.slice xa x.at_.length cx) (.slice xk x.ks.length dx) x.at_ x.ks) := hfd
        have Hx : Hid (BnT x) := hbx
        obtain ⟨D, eD⟩ : ∃ D, D = (L.take i).map kO := ⟨_, rfl⟩
        rw [← eD] at hat hsn hDl
        have HA : Hid (chk2 [] 0 (flT t) = if keyB i x.k = false then 2 else if hasS D x.k = true then 5 else if chkN x ≠ 0 then chkN x else chk2 (D ++ [x.k]) (i + 1) ((flT t).drop (i + 1))) := (by show _ = _; rw [hsn] at hat; exact hat)
        have Hsn : Hid ((L.take (i + 1)).map kO = D ++ [x.k]) := hsn
        have HDl := hide9 hDl
        have HR : Hid (OwnSt w1.heap.size wr (.slice (some ⟨gs, 0, none⟩) i cs) D) := (by rw [eD]; exact HS.out.row)
        have HBr : Hid (Below w1.heap.size w1 wr) := HS.out.bel
        have HP : Hid (g < w1.heap.size ∧ w1.cell? ⟨g, i * 6, none⟩ = some (.int .i64 x.k.1) ∧ w1.cell? ⟨g, i * 6 + 1, none⟩ = some (.int .i64 x.k.2) ∧ w1.cell? ⟨g, i * 6 + 2, none⟩ = some (.string x.tg) ∧ w1.cell? ⟨g, i * 6 + 3, none⟩ = some (.string x.tx) ∧ w1.cell? ⟨g, i * 6 + 4, none⟩ = some (.slice xa x.at_.length cx) ∧ w1.cell? ⟨g, i * 6 + 5, none⟩ = some (.slice xk x.ks.length dx)) := ⟨hgl, p0, p1, p2, p3, p4, p5⟩
        have k1 : (i : Int) < (L.length : Int) := by omega
        have k0 : (0 : Int) ≤ (i : Int) := by omega
        clear ey eD hat hfd hbx hsn hDl p0 p1 p2 p3 p4 p5 hcs hgl HS
        obtain ⟨p0, p1⟩ := ckCells HBr.out HP.out
        by_cases h0 : i = 0
        · subst h0
          clear p0 p1 k0 k1
          have k1 : (0 : Int) < (L.length : Int) := by omega
          obtain ⟨p0, p1⟩ := ckCells0 HBr.out HP.out
          go_wp2_with fail
          refine (refNode_any x.k.1 x.k.2 _).mono ?_
          rintro e w2 ⟨rfl, hb⟩
          have hk : nodeB x.k.1 x.k.2 = keyB 0 x.k := (by unfold keyB; rw [if_pos rfl])
          rw [hk]
          have HR2 := hide9 (OwnE.below HR.out hb)
          have HBw : Hid (Below w1.heap.size w1 w2) := HBr.out.trans (hb.mono HBr.out.size)
          clear hk hb HR p0 p1 HBr
          obtain ⟨p0, p1⟩ := ckCells0 HBw.out HP.out
          cases hkb : keyB 0 x.k
          · have HF : Hid (chk2 [] 0 (flT t) = 2) := HA.out.trans (if_pos hkb)
            clear hkb
            go_wp2
            go_ret
            exact ⟨by rw [HC0.out, HF.out] <;> rfl, HB1.out.trans (HBw.out.mono HB1.out.size)⟩
          · have HA2 : Hid (chk2 [] 0 (flT t) = if hasS D x.k = true then 5 else if chkN x ≠ 0 then chkN x else chk2 (D ++ [x.k]) (0 + 1) ((flT t).drop (0 + 1))) := HA.out.trans (if_neg (by rw [hkb]; decide))
            clear HA hkb
            go_wp2_with fail
            refine (refHas_any w1.heap.size _ D x.k _ HR2.out (by have := HDl.out; omega)).mono ?_
            rintro e w3 ⟨rfl, hb⟩
            have HR3 := hide9 (OwnE.below HR2.out hb)
            have HB3 : Hid (Below w1.heap.size w1 w3) := HBw.out.trans (hb.mono HBw.out.size)
            clear hb HR2 p0 p1 HBw
            obtain ⟨p0, p1⟩ := ckCells0 HB3.out HP.out
            cases hha : hasS D x.k
            · have HA3 : Hid (chk2 [] 0 (flT t) = if chkN x ≠ 0 then chkN x else chk2 (D ++ [x.k]) (0 + 1) ((flT t).drop (0 + 1))) := HA2.out.trans (if_neg (by rw [hha]; decide))
              clear HA2 hha
              obtain ⟨w4, ew4⟩ : ∃ X, X = w3.alloc (.cells #[.int .i64 x.k.1, .int .i64 x.k.2] 23) := ⟨_, rfl⟩
              have Hw4 := hide9 ew4
              have hb4 : Below w3.heap.size w3 w4 := (by rw [ew4]; exact (Below.refl _ _).alloc (Nat.le_refl _) _)
              have hT4 : w4.heap[w3.heap.size]? = some (.cells #[.int .i64 x.k.1, .int .i64 x.k.2] 23) := (by rw [ew4]; exact heap_alloc_new _ _)
              have HT4 := hide9 hT4
              have HR4 := hide9 (OwnE.below HR3.out hb4)
              have HB4 : Hid (Below w1.heap.size w1 w4) := HB3.out.trans (hb4.mono HB3.out.size)
              obtain ⟨H4, eH4⟩ : ∃ n, n = w4.heap.size := ⟨_, rfl⟩
              have HH4 := hide9 eH4
              clear ew4 hb4 hT4 HR3 HB3 eH4
              obtain ⟨i0, hin, hz0, hz1, hz2⟩ := info_parts infoSk
              go_wp2_with (at_builtin; refine Stp.to ?_)
              refine Stp.of ?_
              rw [← Hw4.out]
              clear p0 p1 Hw4
              refine wpList_append_lies w4 rfl _ _ 42 rfl w1.heap.size 23 i0 (.agg #[.int .i64 0, .int .i64 0]) 2 16 Try.underlying42 hin hz0 hz1 hz2 rfl (by decide) (.slice (some ⟨gs, 0, none⟩) 0 cs) 0 (flatE stCells D) rfl (by have h9 : w4.ownsRow w1.heap.size 23 2 (.slice (some ⟨gs, 0, none⟩) 0 cs) D.length (flatE stCells D) := HR4.out; rw [HDl.out] at h9; exact h9) ⟨w3.heap.size, 0, none⟩ 1 1 (stCells x.k) rfl rfl (World.news_of_block HT4.out) (fun y hy => by simp [stCells] at hy; rcases hy with rfl | rfl <;> rfl) (by decide) (by unfold maxLen; omega) (by omega) HB4.out.size H4 HH4.out.symm ?_
              intro g5 c5 w5 hown5 hgr5 hat5 hlt5
              have HB5 : Hid (Below w1.heap.size w1 w5) := HB4.out.trans ((Touch.of_grown (F := fun k => (Value.slice (some ⟨gs, 0, none⟩) 0 cs).ownBlock = some k) hgr5 (fun k e _ => e)).below (fun k q => (OwnE.lt HR4.out k q).1) HB4.out.size)
              have HR5 : Hid (OwnSt w1.heap.size w5 (.slice (some ⟨g5, 0, none⟩) (0 + 1) c5) (D ++ [x.k])) := OwnE.snoc rfl (by rw [HDl.out]; exact hown5)
              clear hown5 hgr5 hat5 hlt5 HR4 HB4 HT4 HH4 hin hz0 hz1 hz2
              obtain ⟨p0, p1, p2, p3, p4, p5⟩ := ckCells60 HB5.out HP.out
              go_wp2_with fail
              refine (refNodeC_any _ x _ _ (VIs.of (Hfx.out.below HB5.out)) Hx.out).mono ?_
              rintro e w6 ⟨rfl, hb⟩
              have HR6 := hide9 (OwnE.below HR5.out hb)
              have HB6 : Hid (Below w1.heap.size w1 w6) := HB5.out.trans (hb.mono HB5.out.size)
              clear hb HR5 HB5 p0 p1 p2 p3 p4 p5
              obtain ⟨p0, p1, p2, p3, p4, p5⟩ := ckCells60 HB6.out HP.out
              obtain ⟨z, ez⟩ : ∃ z, z = chkN x := ⟨_, rfl⟩
              have Hz := hide9 ez
              rw [← ez]
              clear ez
              by_cases hz : z = 0
              · have HEq : Hid (chk2 [] 0 (flT t) = chk2 (D ++ [x.k]) (0 + 1) ((flT t).drop (0 + 1))) := HA3.out.trans (if_neg (by rw [← Hz.out]; exact fun h => h hz))
                subst hz
                have nw1 : IntKind.i64.wrap ((0 : Int) + 1) = (0 : Int) + 1 := by rw [IntKind.wrap_i64]; omega
                clear Hz
                go_wp2
                go_roundw
                case rel => exact ⟨0 + 1, by go_num, by omega, ⟨by rw [Hsn.out]; exact HR6.out, HB6.out, by rw [Hsn.out]; exact HEq.out, ⟨_, _, rfl⟩⟩⟩
                case measure => simp [intOf]; omega
              · have HF : Hid (chk2 [] 0 (flT t) = chkN x) := HA3.out.trans (if_pos (by rw [← Hz.out]; exact hz))
                go_wp2_with fail
                refine (refNodeC_any _ x _ _ (VIs.of (Hfx.out.below HB6.out)) Hx.out).mono ?_
                rintro e w7 ⟨rfl, hb⟩
                have HB7 : Hid (Below w1.heap.size w1 w7) := HB6.out.trans (hb.mono HB6.out.size)
                clear hb
                go_wp2
                go_ret
                exact ⟨by rw [HC0.out, HF.out] <;> rfl, HB1.out.trans (HB7.out.mono HB1.out.size)⟩
            · have HF : Hid (chk2 [] 0 (flT t) = 5) := HA2.out.trans (if_pos hha)
              clear hha
              go_wp2
              go_ret
              exact ⟨by rw [HC0.out, HF.out] <;> rfl, HB1.out.trans (HB3.out.mono HB1.out.size)⟩
        · have H0 := hide9 h0
          have d0 : ¬ (i : Int) = 0 := (by omega)
          clear h0
          have d1 : (0 : Int) < (i : Int) := (by omega)
          go_wp2_with fail
          refine (refRight_any x.k.1 x.k.2 _).mono ?_
          rintro e w2 ⟨rfl, hw2⟩
          have hb : Below wr.heap.size wr w2 := (by rw [hw2]; exact (Below.refl _ _).alloc (Nat.le_refl _) _)
          clear hw2
          have hk : rightB x.k.1 x.k.2 = keyB i x.k := (by unfold keyB; rw [if_neg H0.out])
          rw [hk]
          have HR2 := hide9 (OwnE.below HR.out hb)
          have HBw : Hid (Below w1.heap.size w1 w2) := HBr.out.trans (hb.mono HBr.out.size)
          clear hk hb HR p0 p1 HBr
          obtain ⟨p0, p1⟩ := ckCells HBw.out HP.out
          cases hkb : keyB i x.k
          · have HF : Hid (chk2 [] 0 (flT t) = 2) := HA.out.trans (if_pos hkb)
            clear hkb
            go_wp2
            go_ret
            exact ⟨by rw [HC0.out, HF.out] <;> rfl, HB1.out.trans (HBw.out.mono HB1.out.size)⟩
          · have HA2 : Hid (chk2 [] 0 (flT t) = if hasS D x.k = true then 5 else if chkN x ≠ 0 then chkN x else chk2 (D ++ [x.k]) (i + 1) ((flT t).drop (i + 1))) := HA.out.trans (if_neg (by rw [hkb]; decide))
            clear HA hkb
            go_wp2_with fail
            refine (refHas_any w1.heap.size _ D x.k _ HR2.out (by have := HDl.out; omega)).mono ?_
            rintro e w3 ⟨rfl, hb⟩
            have HR3 := hide9 (OwnE.below HR2.out hb)
            have HB3 : Hid (Below w1.heap.size w1 w3) := HBw.out.trans (hb.mono HBw.out.size)
            clear hb HR2 p0 p1 HBw
            obtain ⟨p0, p1⟩ := ckCells HB3.out HP.out
            cases hha : hasS D x.k
            · have HA3 : Hid (chk2 [] 0 (flT t) = if chkN x ≠ 0 then chkN x else chk2 (D ++ [x.k]) (i + 1) ((flT t).drop (i + 1))) := HA2.out.trans (if_neg (by rw [hha]; decide))
              clear HA2 hha
              obtain ⟨w4, ew4⟩ : ∃ X, X = w3.alloc (.cells #[.int .i64 x.k.1, .int .i64 x.k.2] 23) := ⟨_, rfl⟩
              have Hw4 := hide9 ew4
              have hb4 : Below w3.heap.size w3 w4 := (by rw [ew4]; exact (Below.refl _ _).alloc (Nat.le_refl _) _)
              have hT4 : w4.heap[w3.heap.size]? = some (.cells #[.int .i64 x.k.1, .int .i64 x.k.2] 23) := (by rw [ew4]; exact heap_alloc_new _ _)
              have HT4 := hide9 hT4
              have HR4 := hide9 (OwnE.below HR3.out hb4)
              have HB4 : Hid (Below w1.heap.size w1 w4) := HB3.out.trans (hb4.mono HB3.out.size)
              obtain ⟨H4, eH4⟩ : ∃ n, n = w4.heap.size := ⟨_, rfl⟩
              have HH4 := hide9 eH4
              clear ew4 hb4 hT4 HR3 HB3 eH4
              obtain ⟨i0, hin, hz0, hz1, hz2⟩ := info_parts infoSk
              go_wp2_with (at_builtin; refine Stp.to ?_)
              refine Stp.of ?_
              rw [← Hw4.out]
              clear p0 p1 Hw4
              refine wpList_append_lies w4 rfl _ _ 42 rfl w1.heap.size 23 i0 (.agg #[.int .i64 0, .int .i64 0]) 2 16 Try.underlying42 hin hz0 hz1 hz2 rfl (by decide) (.slice (some ⟨gs, 0, none⟩) i cs) i (flatE stCells D) rfl (by have h9 : w4.ownsRow w1.heap.size 23 2 (.slice (some ⟨gs, 0, none⟩) i cs) D.length (flatE stCells D) := HR4.out; rw [HDl.out] at h9; exact h9) ⟨w3.heap.size, 0, none⟩ 1 1 (stCells x.k) rfl rfl (World.news_of_block HT4.out) (fun y hy => by simp [stCells] at hy; rcases hy with rfl | rfl <;> rfl) (by decide) (by unfold maxLen; omega) (by omega) HB4.out.size H4 HH4.out.symm ?_
              intro g5 c5 w5 hown5 hgr5 hat5 hlt5
              have HB5 : Hid (Below w1.heap.size w1 w5) := HB4.out.trans ((Touch.of_grown (F := fun k => (Value.slice (some ⟨gs, 0, none⟩) i cs).ownBlock = some k) hgr5 (fun k e _ => e)).below (fun k q => (OwnE.lt HR4.out k q).1) HB4.out.size)
              have HR5 : Hid (OwnSt w1.heap.size w5 (.slice (some ⟨g5, 0, none⟩) (i + 1) c5) (D ++ [x.k])) := OwnE.snoc rfl (by rw [HDl.out]; exact hown5)
              clear hown5 hgr5 hat5 hlt5 HR4 HB4 HT4 HH4 hin hz0 hz1 hz2
              obtain ⟨p0, p1, p2, p3, p4, p5⟩ := ckCells6 HB5.out HP.out
              go_wp2_with fail
              refine (refNodeC_any _ x _ _ (VIs.of (Hfx.out.below HB5.out)) Hx.out).mono ?_
              rintro e w6 ⟨rfl, hb⟩
              have HR6 := hide9 (OwnE.below HR5.out hb)
              have HB6 : Hid (Below w1.heap.size w1 w6) := HB5.out.trans (hb.mono HB5.out.size)
              clear hb HR5 HB5 p0 p1 p2 p3 p4 p5
              obtain ⟨p0, p1, p2, p3, p4, p5⟩ := ckCells6 HB6.out HP.out
              obtain ⟨z, ez⟩ : ∃ z, z = chkN x := ⟨_, rfl⟩
              have Hz := hide9 ez
              rw [← ez]
              clear ez
              by_cases hz : z = 0
              · have HEq : Hid (chk2 [] 0 (flT t) = chk2 (D ++ [x.k]) (i + 1) ((flT t).drop (i + 1))) := HA3.out.trans (if_neg (by rw [← Hz.out]; exact fun h => h hz))
                subst hz
                have nw1 : IntKind.i64.wrap ((i : Int) + 1) = (i : Int) + 1 := by rw [IntKind.wrap_i64]; omega
                clear Hz
                go_wp2
                go_roundw
                case rel => exact ⟨i + 1, by go_num, by omega, ⟨by rw [Hsn.out]; exact HR6.out, HB6.out, by rw [Hsn.out]; exact HEq.out, ⟨_, _, rfl⟩⟩⟩
                case measure => simp [intOf]; omega
              · have HF : Hid (chk2 [] 0 (flT t) = chkN x) := HA3.out.trans (if_pos (by rw [← Hz.out]; exact hz))
                go_wp2_with fail
                refine (refNodeC_any _ x _ _ (VIs.of (Hfx.out.below HB6.out)) Hx.out).mono ?_
                rintro e w7 ⟨rfl, hb⟩
                have HB7 : Hid (Below w1.heap.size w1 w7) := HB6.out.trans (hb.mono HB6.out.size)
                clear hb
                go_wp2
                go_ret
                exact ⟨by rw [HC0.out, HF.out] <;> rfl, HB1.out.trans (HB7.out.mono HB1.out.size)⟩
            · have HF : Hid (chk2 [] 0 (flT t) = 5) := HA2.out.trans (if_pos hha)
              clear hha
              go_wp2
              go_ret
              exact ⟨by rw [HC0.out, HF.out] <;> rfl, HB1.out.trans (HB3.out.mono HB1.out.size)⟩
      · have HF : Hid (chk2 [] 0 (flT t) = 0) := (by have h9 := HS.out.eq; rw [List.drop_of_length_le (by rw [← HM.out, List.length_map]; omega)] at h9; exact h9)
        have HBw : Hid (Below w1.heap.size w1 wr) := HS.out.bel
        have k1 : ¬ (i : Int) < (L.length : Int) := by omega
        have k3 : decide ((i : Int) < (L.length : Int)) = false := decide_eq_false k1
        clear HS
        go_wp2
        go_ret
        exact ⟨by rw [HC0.out, HF.out] <;> rfl, HB1.out.trans (HBw.out.mono HB1.out.size)⟩

end Go.Proofs.Ytccpljllgpabnaa
