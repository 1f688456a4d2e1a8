/- The walk of VtreeFinds. -/
import Derived.Test.YtnanlmmmppcipabVtKe
import Derived.Test.YtnanlmmmppcipabPlainVf
import Derived.Test.YtnanlmmmppcipabVtU
import Derived.Deep.Cut
namespace Go.Proofs.Ytnanlmmmppcipab
open Go.RowKit Go.Shelf
set_option linter.unusedVariables false
set_option linter.unusedSimpArgs false

theorem sizeST : (Try.prog.info? 34).map (·.size) = some (#[Value.int .i64 0, .int .i64 0] : Array Value).size := by kernel_rfl
theorem sizeVK : (Try.prog.info? 38).map (·.size) = some 6 := by kernel_rfl
theorem sizeSK : (Try.prog.info? 34).map (·.size) = some 2 := by kernel_rfl
set_option maxHeartbeats 1000000 in
theorem many_any (G : Nat → Prop) (t : VT) (v : Value) (w : World) (h : VIs G w v t) (hsz : t.sz ≤ 1048576) : Calls Try.prog 12 #[v] w fun e w' => e = .returned (.bool (decide (1500 < t.sz))) ∧ Below w.heap.size w w' := by
  obtain ⟨aa, ca, ak, ck, e1, fd⟩ := h.form
  subst e1
  obtain ⟨W0, eW⟩ : ∃ X, X = (w.alloc (.cells #[.int .i64 t.k.1, .int .i64 t.k.2, .string t.tg, .string t.tx, .slice aa t.at_.length ca, .slice ak t.ks.length ck] 38)) := ⟨_, rfl⟩
  have hb0 : Below w.heap.size w W0 := (by rw [eW]; exact (Below.refl _ _).alloc (Nat.le_refl _) _)
  have HFd := hide9 (fd.below hb0)
  have HB := hide9 hb0
  have HE := hide9 eW
  clear h fd hb0 eW
  go_enter Try.func12, Try.ntmps12
  go_wp2_with fail
  rw [← HE.out]
  refine (flatF_any G t _ _ (VIs.of HFd.out) hsz).mono ?_
  rintro e w1 ⟨v1, L, rfl, h1, h2, h3, h4⟩
  obtain ⟨a1, c1, e1⟩ := OwnE.form h1
  subst e1
  have hLl : L.length = t.sz := (by rw [← flT_len, ← h2, List.length_map])
  have HB1 : Hid (Below w.heap.size w w1) := HB.out.trans (h4.mono HB.out.size)
  rw [hLl]
  clear h1 h2 h3 h4 hLl HE HFd HB
  go_wp2
  go_ret
  exact ⟨ret_bool (by first | rfl | (apply decide_eq_decide.2; omega)), HB1.out⟩
/-- What stands while VtreeFinds goes through the nodes. -/
structure VfS (w : World) (G : Nat → Prop) (t : VT) (aa : Option Addr) (ca : Nat) (ak : Option Addr) (ck : Nat) (lv kv : Value) (L : List (VT × Value × Value)) (W : World) : Prop where
  b : W.heap[w.heap.size]? = some (.cells #[.int .i64 t.k.1, .int .i64 t.k.2, .string t.tg, .string t.tx, .slice aa t.at_.length ca, .slice ak t.ks.length ck] 38)
  fd : FdIs G W (.slice aa t.at_.length ca) (.slice ak t.ks.length ck) t.at_ t.ks
  ls : OwnVn 0 W lv L
  fs : ∀ x ∈ L, FdIs (fun _ => True) W x.2.1 x.2.2 x.1.at_ x.1.ks
  ks : OwnSt 0 W kv ((flT t).map VT.k)
  bel : Below w.heap.size w W
theorem VfS.below {w : World} {G : Nat → Prop} {t : VT} {aa : Option Addr} {ca : Nat} {ak : Option Addr} {ck : Nat} {lv kv : Value} {L : List (VT × Value × Value)} {W W' : World} (h : VfS w G t aa ca ak ck lv kv L W) (hb : Below W.heap.size W W') : VfS w G t aa ca ak ck lv kv L W' := ⟨(hb.block _ (row_lt h.b)).trans h.b, h.fd.below hb, OwnE.below h.ls hb, fun x hx => (h.fs x hx).below hb, OwnE.below h.ks hb, h.bel.trans (hb.mono h.bel.size)⟩
/-- A tree of its own, as a value and its blocks. -/
def Sq (x : VT) (F : Nat → Prop) (av kv : Value) (W : World) : Prop := SepF x.sz W F av kv x ∧ ∀ k, F k → k < W.heap.size
theorem Sq.below {x : VT} {F : Nat → Prop} {av kv : Value} {W W' : World} (h : Sq x F av kv W) (hb : Below W.heap.size W W') : Sq x F av kv W' := ⟨h.1.turn _ fun k q => hb.block k (h.2 k q), fun k q => Nat.lt_of_lt_of_le (h.2 k q) hb.size⟩
theorem Sq.row {x : VT} {F : Nat → Prop} {av kv : Value} {W : World} {nb : Nat} {c : Array Value} (h : Sq x F av kv W) (hn : ∀ k, F k → k ≠ nb) : Sq x F av kv (W.setRow nb c) := ⟨h.1.turn _ fun k q => setRow_other W nb k c (hn k q), fun k q => by have := h.2 k q; simpa using this⟩
theorem neqStF (c r : Int) (w : World) : (binOp .neq 34 (.agg #[.int .i64 c, .int .i64 r]) (.agg #[.int .i64 c, .int .i64 r])).run Try.prog w = .ok (.bool false) w := by rw [neqSt]; simp

set_option maxRecDepth 100000 in
set_option maxHeartbeats 16000000 in
theorem vtreeFinds_walk0 (G : Nat → Prop) (v : Value) (t : VT) (w : World) (h : VIs G w v t) (hbn : BnA t) (hsz : t.sz ≤ 1048576) :
    Calls Try.prog 4 #[v] w fun e w' => e = .returned (.bool true) ∧ Below w.heap.size w w' := by
  obtain ⟨aa, ca, ak, ck, e1, fd⟩ := h.form
  subst e1
  obtain ⟨W0, eW⟩ : ∃ X, X = (w.alloc (.cells #[.int .i64 t.k.1, .int .i64 t.k.2, .string t.tg, .string t.tx, .slice aa t.at_.length ca, .slice ak t.ks.length ck] 38)) := ⟨_, rfl⟩
  have hb0 : Below w.heap.size w W0 := (by rw [eW]; exact (Below.refl _ _).alloc (Nat.le_refl _) _)
  have HTb : Hid (W0.heap[w.heap.size]? = some (.cells #[.int .i64 t.k.1, .int .i64 t.k.2, .string t.tg, .string t.tx, .slice aa t.at_.length ca, .slice ak t.ks.length ck] 38)) := (by rw [eW]; exact heap_alloc_new _ _)
  have HFd := hide9 (fd.below hb0)
  have BL := hide9 hb0
  have HN := hide9 hbn
  have HE := hide9 eW
  clear h fd hbn hb0 eW
  go_enter Try.func4, Try.ntmps4
  go_wp2_with fail
  rw [← HE.out]
  clear HE
  refine (many_any G t _ _ (VIs.of HFd.out) hsz).mono ?_
  rintro e W1 ⟨rfl, hb⟩
  replace HTb : Hid (W1.heap[w.heap.size]? = some (.cells #[.int .i64 t.k.1, .int .i64 t.k.2, .string t.tg, .string t.tx, .slice aa t.at_.length ca, .slice ak t.ks.length ck] 38)) := (hb.block _ (row_lt HTb.out)).trans HTb.out
  replace HFd := hide9 (HFd.out.below hb)
  replace BL := hide9 (BL.out.trans (hb.mono BL.out.size))
  clear hb
  by_cases hmn : 1500 < t.sz
  · rw [decide_eq_true hmn]
    clear hmn
    go_wp2_with fail
    refine (awake_any _).mono ?_
    rintro e w9 ⟨rfl, hb⟩
    have B9 := hide9 (BL.out.trans (hb.mono BL.out.size))
    clear hb
    go_wp2
    go_ret
    exact ⟨rfl, B9.out⟩
  · rw [decide_eq_false hmn]
    obtain ⟨y0, y1, y2, y3, y4, y5⟩ := row6 HTb.out
    go_wp2_with fail
    clear y0 y1 y2 y3 y4 y5
    refine (refCheck_any G t _ _ (VIs.of HFd.out) hsz HN.out).mono ?_
    rintro e W2 ⟨rfl, hb⟩
    replace HTb : Hid (W2.heap[w.heap.size]? = some (.cells #[.int .i64 t.k.1, .int .i64 t.k.2, .string t.tg, .string t.tx, .slice aa t.at_.length ca, .slice ak t.ks.length ck] 38)) := (hb.block _ (row_lt HTb.out)).trans HTb.out
    replace HFd := hide9 (HFd.out.below hb)
    replace BL := hide9 (BL.out.trans (hb.mono BL.out.size))
    clear hb
    by_cases hck : chkT t = 0
    · have HNd := hide9 (right_nodup hck)
      rw [hck]
      clear hck
      obtain ⟨y0, y1, y2, y3, y4, y5⟩ := row6 HTb.out
      go_wp2_with fail
      clear y0 y1 y2 y3 y4 y5
      refine (flatF_any G t _ _ (VIs.of HFd.out) hsz).mono ?_
      rintro e W3 ⟨lv, L, rfl, h1, h2, h3, hb⟩
      replace HTb : Hid (W3.heap[w.heap.size]? = some (.cells #[.int .i64 t.k.1, .int .i64 t.k.2, .string t.tg, .string t.tx, .slice aa t.at_.length ca, .slice ak t.ks.length ck] 38)) := (hb.block _ (row_lt HTb.out)).trans HTb.out
      replace HFd := hide9 (HFd.out.below hb)
      replace BL := hide9 (BL.out.trans (hb.mono BL.out.size))
      have HLs := hide9 (OwnE.low h1 (Nat.zero_le _))
      have HLm := hide9 h2
      have HLf : Hid (∀ x ∈ L, FdIs (fun _ => True) W3 x.2.1 x.2.2 x.1.at_ x.1.ks) := fun x hx => (h3 x hx).mono fun _ _ _ => trivial
      have hLl : L.length = t.sz := (by rw [← flT_len, ← h2, List.length_map])
      clear hb h1 h2 h3
      obtain ⟨y0, y1, y2, y3, y4, y5⟩ := row6 HTb.out
      go_wp2_with fail
      clear y0 y1 y2 y3 y4 y5
      refine (keys_any G t _ _ (VIs.of HFd.out) hsz).mono ?_
      rintro e W4 ⟨kv, rfl, h1, hb⟩
      have HS : Hid (VfS w G t aa ca ak ck lv kv L W4) := ⟨(hb.block _ (row_lt HTb.out)).trans HTb.out, HFd.out.below hb, OwnE.below HLs.out hb, fun x hx => (HLf.out x hx).below hb, OwnE.low h1 (Nat.zero_le _), BL.out.trans (hb.mono BL.out.size)⟩
      have hKl : ((flT t).map VT.k).length = t.sz := (by rw [List.length_map, flT_len])
      clear HTb HFd BL HLs HLf hb h1
      obtain ⟨al, cl, el⟩ := OwnE.form HS.out.ls
      obtain ⟨ak2, ck2, ek2⟩ := OwnE.form HS.out.ks
      rw [hLl] at el
      rw [hKl] at ek2
      subst el ek2
      have HLl := hide9 hLl
      have HKl := hide9 hKl
      clear hLl hKl
      have q1 : ((t.sz : Int) != (t.sz : Int)) = false := by simp
      by_cases h200 : 200 < t.sz
      · have q2 : (200 : Int) < (t.sz : Int) := by omega
        have q3 : ((t.sz : Int) == (t.sz : Int)) = true := by simp
        have BL : Hid (Below w.heap.size w W4) := HS.out.bel
        clear HS
        go_wp2_with fail
        refine (awake_any _).mono ?_
        rintro e w9 ⟨rfl, hb⟩
        have B9 := hide9 (BL.out.trans (hb.mono BL.out.size))
        clear hb
        go_wp2
        go_ret
        exact ⟨rfl, B9.out⟩
      · have q2 : ¬ (200 : Int) < (t.sz : Int) := by omega
        go_wp2
        go_loopw [5] (fun iv wr => ∃ i : Nat, i ≤ t.sz ∧ iv = .int .i64 (i : Int) ∧ Hid (VfS w G t aa ca ak ck (.slice al t.sz cl) (.slice ak2 t.sz ck2) L wr)) (fun iv _ => t.sz - (intOf iv).toNat)
        case atStart => exact ⟨0, Nat.zero_le _, rfl, HS⟩
        case round =>
          clear HS
          obtain ⟨i, hi, rfl, HS⟩ := hrel
          by_cases hlt : i < t.sz
          · have k1 : (i : Int) < (t.sz : Int) := by omega
            have k0 : (0 : Int) ≤ (i : Int) := by omega
            have hiL : i < L.length := by rw [HLl.out]; exact hlt
            have hiF : i < (flT t).length := by rw [flT_len]; exact hlt
            have hiK : i < ((flT t).map VT.k).length := by rw [HKl.out]; exact hlt
            obtain ⟨gl, cpl, egl, _, hcl, _⟩ := OwnE.cells vnC_len HS.out.ls hiL
            obtain ⟨gk, cpk, egk, _, hck, _⟩ := OwnE.cells stCells_len HS.out.ks hiK
            injection egl with el1 e91 e92
            injection egk with ek1 e93 e94
            clear e91 e92 e93 e94
            subst el1 ek1
            have hgl := (OwnE.lt HS.out.ls gl rfl).2
            have hgk := (OwnE.lt HS.out.ks gk rfl).2
            have hxe : (flT t)[i] = L[i].1 := (by simp only [← HLm.out, List.getElem_map])
            have hxm : (flT t)[i] ∈ flT t := List.getElem_mem hiF
            have hfx := HS.out.fs _ (List.getElem_mem hiL)
            have hfn := fnd_node HNd.out hiF
            have hkd := fun y (hy : y ∈ (flT t)[i].ks) => par_kid HNd.out hxm hy
            have hke : ((flT t).map VT.k)[i] = (flT t)[i].k := List.getElem_map ..
            rw [hke] at hck
            have p0 := hcl 0 _ rfl
            have p1 := hcl 1 _ rfl
            have p2 := hcl 2 _ rfl
            have p3 := hcl 3 _ rfl
            have p4 := hcl 4 _ rfl
            have p5 := hcl 5 _ rfl
            have s0 := hck 0 _ rfl
            have s1 := hck 1 _ rfl
            obtain ⟨y, ey⟩ : ∃ y, y = L[i] := ⟨_, rfl⟩
            rw [← ey] at hxe hfx p0 p1 p2 p3 p4 p5
            rw [hxe] at hfn hkd s0 s1
            obtain ⟨x, xv, xkv⟩ := y
            obtain ⟨xa, cx, e1⟩ := hfx.at_.form
            obtain ⟨xk, dx, e2⟩ := hfx.ks.form
            dsimp only at e1 e2 hfn hkd s0 s1
            subst e1 e2
            have HXf : Hid (FdIs (fun _ => True) wr (.slice xa x.at_.length cx) (.slice xk x.ks.length dx) x.at_ x.ks) := hfx
            have HXc : Hid (gl < wr.heap.size ∧ wr.cell? ⟨gl, i * 6, none⟩ = some (.int .i64 x.k.1) ∧ wr.cell? ⟨gl, i * 6 + 1, none⟩ = some (.int .i64 x.k.2) ∧ wr.cell? ⟨gl, i * 6 + 2, none⟩ = some (.string x.tg) ∧ wr.cell? ⟨gl, i * 6 + 3, none⟩ = some (.string x.tx) ∧ wr.cell? ⟨gl, i * 6 + 4, none⟩ = some (.slice xa x.at_.length cx) ∧ wr.cell? ⟨gl, i * 6 + 5, none⟩ = some (.slice xk x.ks.length dx)) := ⟨hgl, p0, p1, p2, p3, p4, p5⟩
            have HKc : Hid (gk < wr.heap.size ∧ wr.cell? ⟨gk, i * 2, none⟩ = some (.int .i64 x.k.1) ∧ wr.cell? ⟨gk, i * 2 + 1, none⟩ = some (.int .i64 x.k.2)) := ⟨hgk, s0, s1⟩
            have HFn : Hid (fndT t x.k = some x) := hfn
            have HKd : Hid (∀ y ∈ x.ks, parR [] (flatD t 0) y.k = (x.k, true)) := hkd
            clear hcl hck hxe hxm hfx hfn hkd hke ey p0 p1 p2 p3 p4 p5 s0 s1 hgl hgk
            go_upto_region 10 with fail
            refine wp_region_held_drew (S := fun W' => Below wr.heap.size wr W') (by kernel_rfl) (Below.refl _ _).drew (fun hHeld => ?_)
            obtain ⟨Up1u0, eW⟩ : ∃ X, X = wr.drew := ⟨_, rfl⟩
            have hb : Below wr.heap.size wr Up1u0 := by rw [eW]; exact (Below.refl _ _).drew
            rw [← eW] at hHeld ⊢
            clear eW hb
            refine tkW 0 (some 50) (v := ?_) ?_ hHeld ?_
            rotate_left
            · (intro ww hSw; (try dsimp only at hSw); obtain ⟨y0, y1, y2, y3, y4, y5⟩ := row6 ((hSw.block _ (row_lt HS.out.b)).trans HS.out.b); go_simp; try with_reducible rfl)
            refine tkW 1 (some 51) (v := ?_) ?_ hHeld ?_
            rotate_left
            · (intro ww _; go_simp; try with_reducible rfl)
            refine tkW 2 (some 52) (v := ?_) ?_ hHeld ?_
            rotate_left
            · (intro ww _; go_simp; try with_reducible rfl)
            refine tkW 3 (some 53) (v := ?_) ?_ hHeld ?_
            rotate_left
            · (intro ww hSw; (try dsimp only at hSw); go_simp; try with_reducible rfl)
            refine tkW 4 (some 54) (v := ?_) ?_ hHeld ?_
            rotate_left
            · (intro ww hSw; (try dsimp only at hSw); have c9 : ww.cell? ⟨gk, i * 2, none⟩ = some (.int .i64 x.k.1) := (hSw.cell (p := ⟨gk, i * 2, none⟩) HKc.out.1).trans HKc.out.2.1; have c8 : ww.cell? ⟨gk, i * 2 + 1, none⟩ = some (.int .i64 x.k.2) := (hSw.cell (p := ⟨gk, i * 2 + 1, none⟩) HKc.out.1).trans HKc.out.2.2; go_simp; try with_reducible rfl)
            refine wpAnyH_ready (rs := [5, 9]) (by kernel_rfl) (by simp) ?_
            refine AllReadyH.cons (o := ⟨some 55, _, _, _, _, _⟩) rfl (fun K hK => ?_) (AllReadyH.cons (o := ⟨some 6, _, _, _, _, _⟩) rfl (fun K hK => ?_) AllReadyH.nil)
            · go_wp2_with fail
              refine (find_any G t x.k _ _ (VIs.of (HS.out.fd.below hHeld)) hsz).mono ?_
              rintro e Up1u1 ⟨x9, av, kv9, F, rfl, hx9, hsp, hF, hb⟩
              rw [HFn.out] at hx9 ⊢
              have hx8 : x9 = x := hx9.symm
              subst hx8
              obtain ⟨sa, sc, sk, dk, ea, ek⟩ := SepF.form _ hsp
              subst ea ek
              have HSq : Hid (Sq x9 F (.slice sa x9.at_.length sc) (.slice sk x9.ks.length dk) Up1u1) := ⟨hsp, fun k q => (hF k q).2⟩
              (try go_wp2_with fail)
              refine hK.out _ _ (hHeld.trans (hb.mono hHeld.size)) (fun hHeld2 => ?_)
              clear hK K hHeld
              have hHeld := hHeld2
              clear hHeld2
              (try simp only [Act.put, List.setIfInBounds_toArray, List.set_cons_zero, List.set_cons_succ])
              clear hb hsp hF hx9
              refine tkW 6 (some 49) (v := ?_) ?_ hHeld ?_
              rotate_left
              · (intro ww _; go_simp; try with_reducible rfl)
              refine tkW 7 (some 56) (v := ?_) ?_ hHeld ?_
              rotate_left
              · (intro ww _; go_simp; try with_reducible rfl)
              refine tkW 8 (some 57) (v := ?_) ?_ hHeld ?_
              rotate_left
              · (intro ww _; go_simp; try with_reducible rfl)
              refine wpAnyH_ready (rs := [9]) (by kernel_rfl) (by simp) ?_
              refine AllReadyH.cons (o := ⟨some 6, _, _, _, _, _⟩) rfl (fun K hK => ?_) AllReadyH.nil
              have HNb : Hid (wr.heap.size ≤ Up1u1.heap.size) := hHeld.size
              have hbx : Below Up1u1.heap.size Up1u1 (Up1u1.alloc (.cells #[.int .i64 0, .int .i64 0, .string ⟨#[]⟩, .string ⟨#[]⟩, .slice none 0 0, .slice none 0 0] 38)) := (Below.refl _ _).alloc (Nat.le_refl _) _
              go_simp
              refine hK.out _ _ (hHeld.trans (hbx.mono hHeld.size)) (fun hHeld2 => ?_)
              clear hK K hHeld
              have hHeld := hHeld2
              clear hHeld2
              (try simp only [Act.put, List.setIfInBounds_toArray, List.set_cons_zero, List.set_cons_succ])
              obtain ⟨Up1u2, eW⟩ : ∃ X, X = Up1u1.alloc (.cells #[.int .i64 0, .int .i64 0, .string ⟨#[]⟩, .string ⟨#[]⟩, .slice none 0 0, .slice none 0 0] 38) := ⟨_, rfl⟩
              have hb : Below Up1u1.heap.size Up1u1 Up1u2 := by rw [eW]; exact (Below.refl _ _).alloc (Nat.le_refl _) _
              have HZ : Hid (Up1u2.heap[Up1u1.heap.size]? = some (.cells #[.int .i64 0, .int .i64 0, .string ⟨#[]⟩, .string ⟨#[]⟩, .slice none 0 0, .slice none 0 0] 38)) := by rw [eW]; exact heap_alloc_new _ _
              rw [← eW] at hHeld ⊢
              clear eW
              clear hbx
              obtain ⟨nb, enb⟩ : ∃ b, b = Up1u1.heap.size := ⟨_, rfl⟩
              have HNn : Hid (∀ k, F k → k ≠ nb) := fun k q e => (by have h1 := HSq.out.2 k q; omega)
              replace HSq := hide9 (HSq.out.below hb)
              skip
              rw [← enb] at HZ HNb ⊢
              clear enb
              clear hb
              refine wpAnyH_ready (rs := [10]) (by kernel_rfl) (by simp) ?_
              refine AllReadyH.cons (o := ⟨none, _, _, _, _, _⟩) rfl (fun K hK => ?_) AllReadyH.nil
              refine step_store_row rfl 38 (.tmp 6) (.tmp 56) rfl nb 38 #[.int .i64 0, .int .i64 0, .string ⟨#[]⟩, .string ⟨#[]⟩, .slice none 0 0, .slice none 0 0] #[.int .i64 x9.k.1, .int .i64 x9.k.2, .string x9.tg, .string x9.tx, (.slice sa x9.at_.length sc), (.slice sk x9.ks.length dk)] rfl rfl HZ.out sizeVK rfl (by simp [Value.oneCell']) ?_
              obtain ⟨Up1u3, eW⟩ : ∃ Y, Y = Up1u2.setRow nb #[.int .i64 x9.k.1, .int .i64 x9.k.2, .string x9.tg, .string x9.tx, (.slice sa x9.at_.length sc), (.slice sk x9.ks.length dk)] := ⟨_, rfl⟩
              rw [← eW]
              have HX9 : Hid (Up1u3.heap[nb]? = some (.cells #[.int .i64 x9.k.1, .int .i64 x9.k.2, .string x9.tg, .string x9.tx, (.slice sa x9.at_.length sc), (.slice sk x9.ks.length dk)] 38)) := (by rw [eW]; exact setRow_same HZ.out)
              have HSq9 : Hid (Sq x9 F (.slice sa x9.at_.length sc) (.slice sk x9.ks.length dk) Up1u3) := (by rw [eW]; exact HSq.out.row HNn.out)
              have hbz : Below wr.heap.size wr Up1u3 := (by rw [eW]; exact hHeld.grown (grown_setRow _ _ _) hHeld.size (fun k e => by cases e; exact HNb.out))
              clear eW
              refine hK.out _ _ (hbz) (fun hHeld2 => ?_)
              clear hK K hHeld
              have hHeld := hHeld2
              clear hHeld2
              (try simp only [Act.put, List.setIfInBounds_toArray, List.set_cons_zero, List.set_cons_succ])
              clear hbz HZ HSq HNn
              refine tkW 11 (some 7) (v := ?_) ?_ hHeld ?_
              rotate_left
              · (intro ww _; go_simp; try with_reducible rfl)
              refine wpAnyH_done (by kernel_rfl) ?_ _
              obtain ⟨U, eU⟩ : ∃ X, X = Up1u3 := ⟨_, rfl⟩
              rw [← eU] at hHeld HX9 HSq9 ⊢
              clear eU
              replace HS : Hid (VfS w G t aa ca ak ck (.slice (some ⟨gl, 0, none⟩) t.sz cl) (.slice (some ⟨gk, 0, none⟩) t.sz ck2) L U) := HS.out.below hHeld
              have HXc9 := hide9 HXc.out
              replace HXc : Hid (gl < U.heap.size ∧ U.cell? ⟨gl, i * 6, none⟩ = some (.int .i64 x9.k.1) ∧ U.cell? ⟨gl, i * 6 + 1, none⟩ = some (.int .i64 x9.k.2) ∧ U.cell? ⟨gl, i * 6 + 2, none⟩ = some (.string x9.tg) ∧ U.cell? ⟨gl, i * 6 + 3, none⟩ = some (.string x9.tx) ∧ U.cell? ⟨gl, i * 6 + 4, none⟩ = some (.slice xa x9.at_.length cx) ∧ U.cell? ⟨gl, i * 6 + 5, none⟩ = some (.slice xk x9.ks.length dx)) := ⟨Nat.lt_of_lt_of_le HXc9.out.1 hHeld.size, ckCells6 hHeld HXc9.out⟩
              replace HKc : Hid (gk < U.heap.size ∧ U.cell? ⟨gk, i * 2, none⟩ = some (.int .i64 x9.k.1) ∧ U.cell? ⟨gk, i * 2 + 1, none⟩ = some (.int .i64 x9.k.2)) := ⟨Nat.lt_of_lt_of_le HKc.out.1 hHeld.size, (hHeld.cell (p := ⟨gk, i * 2, none⟩) HKc.out.1).trans HKc.out.2.1, (hHeld.cell (p := ⟨gk, i * 2 + 1, none⟩) HKc.out.1).trans HKc.out.2.2⟩
              replace HXf := hide9 (HXf.out.below hHeld)
              clear hHeld HXc9 HFn
              skip
              go_upto_region 11 with fail
              refine wp_region_held_drew (S := fun W' => Below U.heap.size U W') (by kernel_rfl) (Below.refl _ _).drew (fun hHeld => ?_)
              obtain ⟨Un2u0, eW⟩ : ∃ X, X = U.drew := ⟨_, rfl⟩
              have hb : Below U.heap.size U Un2u0 := by rw [eW]; exact (Below.refl _ _).drew
              rw [← eW] at hHeld ⊢
              clear eW hb
              refine tkW 0 (some 58) (v := ?_) ?_ hHeld ?_
              rotate_left
              · (intro ww _; go_simp; try with_reducible rfl)
              refine tkW 1 (some 59) (v := ?_) ?_ hHeld ?_
              rotate_left
              · (intro ww _; go_simp; try with_reducible rfl)
              refine tkW 2 (some 60) (v := ?_) ?_ hHeld ?_
              rotate_left
              · (intro ww _; go_simp; try with_reducible rfl)
              refine tkW 3 (some 61) (v := ?_) ?_ hHeld ?_
              rotate_left
              · (intro ww hSw; (try dsimp only at hSw); obtain ⟨y0, y1, y2, y3, y4, y5⟩ := row6 ((hSw.block _ (row_lt HX9.out)).trans HX9.out); go_simp; try with_reducible rfl)
              refine tkW 4 (some 62) (v := ?_) ?_ hHeld ?_
              rotate_left
              · (intro ww _; go_simp; try with_reducible rfl)
              refine tkW 5 (some 63) (v := ?_) ?_ hHeld ?_
              rotate_left
              · (intro ww _; go_simp; try with_reducible rfl)
              refine tkW 6 (some 64) (v := ?_) ?_ hHeld ?_
              rotate_left
              · (intro ww hSw; (try dsimp only at hSw); go_simp; try with_reducible rfl)
              refine tkW 7 (some 65) (v := ?_) ?_ hHeld ?_
              rotate_left
              · (intro ww hSw; (try dsimp only at hSw); obtain ⟨y0, y1, y2, y3, y4, y5⟩ := ckCells6 hSw HXc.out; go_simp; try with_reducible rfl)
              refine wpAnyH_ready (rs := [8]) (by kernel_rfl) (by simp) ?_
              refine AllReadyH.cons (o := ⟨some 66, _, _, _, _, _⟩) rfl (fun K hK => ?_) AllReadyH.nil
              go_wp2_with fail
              refine (refSame_any _ _ x9 x9 _ _ _ (VIs.of ((HSq9.out.below hHeld).1.vis _)) (VIs.of (HXf.out.below hHeld))).mono ?_
              rintro e Un2u1 ⟨rfl, hb⟩
              rw [eqV_self]
              (try go_wp2_with fail)
              refine hK.out _ _ (hHeld.trans (hb.mono hHeld.size)) (fun hHeld2 => ?_)
              clear hK K hHeld
              have hHeld := hHeld2
              clear hHeld2
              (try simp only [Act.put, List.setIfInBounds_toArray, List.set_cons_zero, List.set_cons_succ])
              clear hb
              refine tkW 9 (some 67) (v := ?_) ?_ hHeld ?_
              rotate_left
              · (intro ww _; go_simp; try with_reducible rfl)
              refine tkW 10 (some 68) (v := ?_) ?_ hHeld ?_
              rotate_left
              · (intro ww _; go_simp; try with_reducible rfl)
              refine wpAnyH_done (by kernel_rfl) ?_ _
              obtain ⟨U2, eU⟩ : ∃ X, X = Un2u1 := ⟨_, rfl⟩
              rw [← eU] at hHeld ⊢
              clear eU
              replace HS : Hid (VfS w G t aa ca ak ck (.slice (some ⟨gl, 0, none⟩) t.sz cl) (.slice (some ⟨gk, 0, none⟩) t.sz ck2) L U2) := HS.out.below hHeld
              replace HSq9 := hide9 (HSq9.out.below hHeld)
              replace HX9 : Hid (U2.heap[nb]? = some (.cells #[.int .i64 x9.k.1, .int .i64 x9.k.2, .string x9.tg, .string x9.tx, (.slice sa x9.at_.length sc), (.slice sk x9.ks.length dk)] 38)) := (hHeld.block _ (row_lt HX9.out)).trans HX9.out
              replace HKc : Hid (gk < U2.heap.size ∧ U2.cell? ⟨gk, i * 2, none⟩ = some (.int .i64 x9.k.1) ∧ U2.cell? ⟨gk, i * 2 + 1, none⟩ = some (.int .i64 x9.k.2)) := ⟨Nat.lt_of_lt_of_le HKc.out.1 hHeld.size, (hHeld.cell (p := ⟨gk, i * 2, none⟩) HKc.out.1).trans HKc.out.2.1, (hHeld.cell (p := ⟨gk, i * 2 + 1, none⟩) HKc.out.1).trans HKc.out.2.2⟩
              clear hHeld HXc HXf
              go_wp2
              have hkl : x9.ks.length ≤ 1466015503701 := (HSq9.out.1.vis _).ks.len
              go_loopw [8] (fun jv wr => ∃ j : Nat, j ≤ x9.ks.length ∧ jv = .int .i64 (j : Int) ∧ Hid (Below U2.heap.size U2 wr)) (fun jv _ => x9.ks.length - (intOf jv).toNat)
              case atStart => exact ⟨0, Nat.zero_le _, rfl, Below.refl _ _⟩
              case round =>
                obtain ⟨j, hj, rfl, HBr⟩ := hrel
                have HX8 : Hid (wr.heap[nb]? = some (.cells #[.int .i64 x9.k.1, .int .i64 x9.k.2, .string x9.tg, .string x9.tx, (.slice sa x9.at_.length sc), (.slice sk x9.ks.length dk)] 38)) := (HBr.out.block _ (row_lt HX9.out)).trans HX9.out
                obtain ⟨y0, y1, y2, y3, y4, y5⟩ := row6 HX8.out
                by_cases hltj : j < x9.ks.length
                · have j1 : (j : Int) < (x9.ks.length : Int) := by omega
                  have j0 : (0 : Int) ≤ (j : Int) := by omega
                  obtain ⟨b2, o2, esk, _, hb2, hat⟩ := ((HSq9.out.below HBr.out).1.vis _).ks.kid hltj
                  subst esk
                  obtain ⟨_, _, _, _, kc0, kc1, _⟩ := hat.cells
                  have hkd := HKd.out _ (List.getElem_mem hltj)
                  obtain ⟨y, ey⟩ : ∃ y, y = x9.ks[j] := ⟨_, rfl⟩
                  rw [← ey] at kc0 kc1 hkd
                  have HKy : Hid (b2 < wr.heap.size ∧ wr.cell? ⟨b2, o2 + j * 6, none⟩ = some (.int .i64 y.k.1) ∧ wr.cell? ⟨b2, o2 + j * 6 + 1, none⟩ = some (.int .i64 y.k.2)) := ⟨hb2, kc0, kc1⟩
                  have HPk := hide9 hkd
                  clear kc0 kc1 hkd ey hat hb2
                  go_upto_region 16 with fail
                  clear y0 y1 y2 y3 y4 y5
                  have HS8 : Hid (VfS w G t aa ca ak ck (.slice (some ⟨gl, 0, none⟩) t.sz cl) (.slice (some ⟨gk, 0, none⟩) t.sz ck2) L wr) := HS.out.below HBr.out
                  refine wp_region_held_drew (S := fun W' => Below wr.heap.size wr W') (by kernel_rfl) (Below.refl _ _).drew (fun hHeld => ?_)
                  obtain ⟨Uq3u0, eW⟩ : ∃ X, X = wr.drew := ⟨_, rfl⟩
                  have hb : Below wr.heap.size wr Uq3u0 := by rw [eW]; exact (Below.refl _ _).drew
                  rw [← eW] at hHeld ⊢
                  clear eW hb
                  refine tkW 0 (some 77) (v := ?_) ?_ hHeld ?_
                  rotate_left
                  · (intro ww hSw; (try dsimp only at hSw); obtain ⟨y0, y1, y2, y3, y4, y5⟩ := row6 ((hSw.block _ (row_lt HS8.out.b)).trans HS8.out.b); go_simp; try with_reducible rfl)
                  refine tkW 1 (some 78) (v := ?_) ?_ hHeld ?_
                  rotate_left
                  · (intro ww _; go_simp; try with_reducible rfl)
                  refine tkW 2 (some 79) (v := ?_) ?_ hHeld ?_
                  rotate_left
                  · (intro ww hSw; (try dsimp only at hSw); obtain ⟨y0, y1, y2, y3, y4, y5⟩ := row6 ((hSw.block _ (row_lt HX8.out)).trans HX8.out); go_simp; try with_reducible rfl)
                  refine tkW 3 (some 80) (v := ?_) ?_ hHeld ?_
                  rotate_left
                  · (intro ww _; go_simp; try with_reducible rfl)
                  refine tkW 4 (some 81) (v := ?_) ?_ hHeld ?_
                  rotate_left
                  · (intro ww hSw; (try dsimp only at hSw); go_simp; try with_reducible rfl)
                  refine tkW 5 (some 82) (v := ?_) ?_ hHeld ?_
                  rotate_left
                  · (intro ww _; go_simp; try with_reducible rfl)
                  refine tkW 6 (some 83) (v := ?_) ?_ hHeld ?_
                  rotate_left
                  · (intro ww hSw; (try dsimp only at hSw); have c9 : ww.cell? ⟨b2, o2 + j * 6, none⟩ = some (.int .i64 y.k.1) := (hSw.cell (p := ⟨b2, o2 + j * 6, none⟩) HKy.out.1).trans HKy.out.2.1; have c8 : ww.cell? ⟨b2, o2 + j * 6 + 1, none⟩ = some (.int .i64 y.k.2) := (hSw.cell (p := ⟨b2, o2 + j * 6 + 1, none⟩) HKy.out.1).trans HKy.out.2.2; go_simp; try with_reducible rfl)
                  refine wpAnyH_ready (rs := [7, 11]) (by kernel_rfl) (by simp) ?_
                  refine AllReadyH.cons (o := ⟨some 84, _, _, _, _, _⟩) rfl (fun K hK => ?_) (AllReadyH.cons (o := ⟨some 9, _, _, _, _, _⟩) rfl (fun K hK => ?_) AllReadyH.nil)
                  · go_wp2_with fail
                    refine (parent_any G t y.k _ _ (VIs.of (HS8.out.fd.below hHeld)) hsz).mono ?_
                    rintro e Uq3u1 ⟨rfl, hb⟩
                    rw [HPk.out]
                    (try go_wp2_with fail)
                    refine hK.out _ _ (hHeld.trans (hb.mono hHeld.size)) (fun hHeld2 => ?_)
                    clear hK K hHeld
                    have hHeld := hHeld2
                    clear hHeld2
                    (try simp only [Act.put, List.setIfInBounds_toArray, List.set_cons_zero, List.set_cons_succ])
                    clear hb
                    refine tkW 8 (some 76) (v := ?_) ?_ hHeld ?_
                    rotate_left
                    · (intro ww _; go_simp; try with_reducible rfl)
                    refine tkW 9 (some 85) (v := ?_) ?_ hHeld ?_
                    rotate_left
                    · (intro ww _; go_simp; try with_reducible rfl)
                    refine tkW 10 (some 86) (v := ?_) ?_ hHeld ?_
                    rotate_left
                    · (intro ww _; go_simp; try with_reducible rfl)
                    refine wpAnyH_ready (rs := [11]) (by kernel_rfl) (by simp) ?_
                    refine AllReadyH.cons (o := ⟨some 9, _, _, _, _, _⟩) rfl (fun K hK => ?_) AllReadyH.nil
                    have hbx : Below Uq3u1.heap.size Uq3u1 (Uq3u1.alloc (.cells #[.int .i64 0, .int .i64 0] 34)) := (Below.refl _ _).alloc (Nat.le_refl _) _
                    have HNb : Hid (wr.heap.size ≤ Uq3u1.heap.size) := hHeld.size
                    go_simp
                    refine hK.out _ _ (hHeld.trans (hbx.mono hHeld.size)) (fun hHeld2 => ?_)
                    clear hK K hHeld
                    have hHeld := hHeld2
                    clear hHeld2
                    (try simp only [Act.put, List.setIfInBounds_toArray, List.set_cons_zero, List.set_cons_succ])
                    obtain ⟨Uq3u2, eW⟩ : ∃ X, X = Uq3u1.alloc (.cells #[.int .i64 0, .int .i64 0] 34) := ⟨_, rfl⟩
                    have hb : Below Uq3u1.heap.size Uq3u1 Uq3u2 := by rw [eW]; exact (Below.refl _ _).alloc (Nat.le_refl _) _
                    have HZ : Hid (Uq3u2.heap[Uq3u1.heap.size]? = some (.cells #[.int .i64 0, .int .i64 0] 34)) := by rw [eW]; exact heap_alloc_new _ _
                    rw [← eW] at hHeld ⊢
                    clear eW
                    clear hbx
                    obtain ⟨pb, enb⟩ : ∃ b, b = Uq3u1.heap.size := ⟨_, rfl⟩
                    rw [← enb] at HZ HNb ⊢
                    clear enb
                    clear hb
                    refine wpAnyH_ready (rs := [12]) (by kernel_rfl) (by simp) ?_
                    refine AllReadyH.cons (o := ⟨none, _, _, _, _, _⟩) rfl (fun K hK => ?_) AllReadyH.nil
                    refine step_store_row rfl 34 (.tmp 9) (.tmp 85) rfl pb 34 #[.int .i64 0, .int .i64 0] #[.int .i64 x9.k.1, .int .i64 x9.k.2] rfl rfl HZ.out sizeSK rfl (by simp [Value.oneCell']) ?_
                    obtain ⟨Uq3u3, eW⟩ : ∃ Y, Y = Uq3u2.setRow pb #[.int .i64 x9.k.1, .int .i64 x9.k.2] := ⟨_, rfl⟩
                    rw [← eW]
                    have HP9 : Hid (Uq3u3.heap[pb]? = some (.cells #[.int .i64 x9.k.1, .int .i64 x9.k.2] 34)) := (by rw [eW]; exact setRow_same HZ.out)
                    have hbz : Below wr.heap.size wr Uq3u3 := (by rw [eW]; exact hHeld.grown (grown_setRow _ _ _) hHeld.size (fun k e => by cases e; exact HNb.out))
                    clear eW
                    refine hK.out _ _ (hbz) (fun hHeld2 => ?_)
                    clear hK K hHeld
                    have hHeld := hHeld2
                    clear hHeld2
                    (try simp only [Act.put, List.setIfInBounds_toArray, List.set_cons_zero, List.set_cons_succ])
                    clear hbz HZ HNb
                    refine tkW 13 (some 10) (v := ?_) ?_ hHeld ?_
                    rotate_left
                    · (intro ww _; go_simp; try with_reducible rfl)
                    refine wpAnyH_done (by kernel_rfl) ?_ _
                    obtain ⟨U4, eU⟩ : ∃ X, X = Uq3u3 := ⟨_, rfl⟩
                    rw [← eU] at hHeld HP9 ⊢
                    clear eU
                    have HB4 := hide9 (HBr.out.trans (hHeld.mono HBr.out.size))
                    have HKc4 : Hid (gk < U4.heap.size ∧ U4.cell? ⟨gk, i * 2, none⟩ = some (.int .i64 x9.k.1) ∧ U4.cell? ⟨gk, i * 2 + 1, none⟩ = some (.int .i64 x9.k.2)) := ⟨Nat.lt_of_lt_of_le HKc.out.1 HB4.out.size, (HB4.out.cell (p := ⟨gk, i * 2, none⟩) HKc.out.1).trans HKc.out.2.1, (HB4.out.cell (p := ⟨gk, i * 2 + 1, none⟩) HKc.out.1).trans HKc.out.2.2⟩
                    clear hHeld HBr HS8 HX8 HKy HPk
                    go_upto_region 17 with fail
                    refine wp_region_held_drew (S := fun W' => Below U4.heap.size U4 W') (by kernel_rfl) (Below.refl _ _).drew (fun hHeld => ?_)
                    obtain ⟨Ur4u0, eW⟩ : ∃ X, X = U4.drew := ⟨_, rfl⟩
                    have hb : Below U4.heap.size U4 Ur4u0 := by rw [eW]; exact (Below.refl _ _).drew
                    rw [← eW] at hHeld ⊢
                    clear eW hb
                    refine tkW 0 (some 87) (v := ?_) ?_ hHeld ?_
                    rotate_left
                    · (intro ww _; go_simp; try with_reducible rfl)
                    refine tkW 1 (some 88) (v := ?_) ?_ hHeld ?_
                    rotate_left
                    · (intro ww _; go_simp; try with_reducible rfl)
                    refine tkW 2 (some 89) (v := ?_) ?_ hHeld ?_
                    rotate_left
                    · (intro ww _; go_simp; try with_reducible rfl)
                    refine tkW 3 (some 90) (v := ?_) ?_ hHeld ?_
                    rotate_left
                    · (intro ww hSw; (try dsimp only at hSw); have c9 : ww.cell? ⟨pb, 0, none⟩ = some (.int .i64 x9.k.1) := (by rw [cell_of_row _ _ _ _ _ _ ((hSw.block _ (row_lt HP9.out)).trans HP9.out)]; rfl); have c8 : ww.cell? ⟨pb, 1, none⟩ = some (.int .i64 x9.k.2) := (by rw [cell_of_row _ _ _ _ _ _ ((hSw.block _ (row_lt HP9.out)).trans HP9.out)]; rfl); go_simp; try with_reducible rfl)
                    refine tkW 4 (some 91) (v := ?_) ?_ hHeld ?_
                    rotate_left
                    · (intro ww _; go_simp; try with_reducible rfl)
                    refine tkW 5 (some 92) (v := ?_) ?_ hHeld ?_
                    rotate_left
                    · (intro ww _; go_simp; try with_reducible rfl)
                    refine tkW 6 (some 93) (v := ?_) ?_ hHeld ?_
                    rotate_left
                    · (intro ww hSw; (try dsimp only at hSw); go_simp; try with_reducible rfl)
                    refine tkW 7 (some 94) (v := ?_) ?_ hHeld ?_
                    rotate_left
                    · (intro ww hSw; (try dsimp only at hSw); have c9 : ww.cell? ⟨gk, i * 2, none⟩ = some (.int .i64 x9.k.1) := (hSw.cell (p := ⟨gk, i * 2, none⟩) HKc4.out.1).trans HKc4.out.2.1; have c8 : ww.cell? ⟨gk, i * 2 + 1, none⟩ = some (.int .i64 x9.k.2) := (hSw.cell (p := ⟨gk, i * 2 + 1, none⟩) HKc4.out.1).trans HKc4.out.2.2; go_simp; try with_reducible rfl)
                    refine tkW 8 (some 95) (v := ?_) ?_ hHeld ?_
                    rotate_left
                    · (intro ww hSw; (try dsimp only at hSw); have hq := neqStF x9.k.1 x9.k.2; go_simp; try with_reducible rfl)
                    refine tkW 9 (some 96) (v := ?_) ?_ hHeld ?_
                    rotate_left
                    · (intro ww _; go_simp; try with_reducible rfl)
                    refine wpAnyH_done (by kernel_rfl) ?_ _
                    have HBr := hide9 (HB4.out.trans (hHeld.mono HB4.out.size))
                    clear hHeld
                    have n1 : IntKind.i64.wrap ((j : Int) + 1) = (j : Int) + 1 := by rw [IntKind.wrap_i64]; omega
                    go_wp2
                    go_roundw
                    case rel => exact ⟨j + 1, by omega, by go_num, HBr⟩
                    case measure => simp [intOf]; omega
                  · have hbx : Below Uq3u0.heap.size Uq3u0 (Uq3u0.alloc (.cells #[.int .i64 0, .int .i64 0] 34)) := (Below.refl _ _).alloc (Nat.le_refl _) _
                    have HNb : Hid (wr.heap.size ≤ Uq3u0.heap.size) := hHeld.size
                    go_simp
                    refine hK.out _ _ (hHeld.trans (hbx.mono hHeld.size)) (fun hHeld2 => ?_)
                    clear hK K hHeld
                    have hHeld := hHeld2
                    clear hHeld2
                    (try simp only [Act.put, List.setIfInBounds_toArray, List.set_cons_zero, List.set_cons_succ])
                    obtain ⟨Uq3u4, eW⟩ : ∃ X, X = Uq3u0.alloc (.cells #[.int .i64 0, .int .i64 0] 34) := ⟨_, rfl⟩
                    have hb : Below Uq3u0.heap.size Uq3u0 Uq3u4 := by rw [eW]; exact (Below.refl _ _).alloc (Nat.le_refl _) _
                    have HZ : Hid (Uq3u4.heap[Uq3u0.heap.size]? = some (.cells #[.int .i64 0, .int .i64 0] 34)) := by rw [eW]; exact heap_alloc_new _ _
                    rw [← eW] at hHeld ⊢
                    clear eW
                    clear hbx
                    obtain ⟨pb, enb⟩ : ∃ b, b = Uq3u0.heap.size := ⟨_, rfl⟩
                    rw [← enb] at HZ HNb ⊢
                    clear enb
                    clear hb
                    refine wpAnyH_ready (rs := [7]) (by kernel_rfl) (by simp) ?_
                    refine AllReadyH.cons (o := ⟨some 84, _, _, _, _, _⟩) rfl (fun K hK => ?_) AllReadyH.nil
                    go_wp2_with fail
                    refine (parent_any G t y.k _ _ (VIs.of (HS8.out.fd.below hHeld)) hsz).mono ?_
                    rintro e Uq3u5 ⟨rfl, hb⟩
                    rw [HPk.out]
                    have HZ : Hid (Uq3u5.heap[pb]? = some (.cells #[.int .i64 0, .int .i64 0] 34)) := (hb.block _ (row_lt HZ.out)).trans HZ.out
                    (try go_wp2_with fail)
                    refine hK.out _ _ (hHeld.trans (hb.mono hHeld.size)) (fun hHeld2 => ?_)
                    clear hK K hHeld
                    have hHeld := hHeld2
                    clear hHeld2
                    (try simp only [Act.put, List.setIfInBounds_toArray, List.set_cons_zero, List.set_cons_succ])
                    clear hb
                    refine tkW 8 (some 76) (v := ?_) ?_ hHeld ?_
                    rotate_left
                    · (intro ww _; go_simp; try with_reducible rfl)
                    refine tkW 9 (some 85) (v := ?_) ?_ hHeld ?_
                    rotate_left
                    · (intro ww _; go_simp; try with_reducible rfl)
                    refine tkW 10 (some 86) (v := ?_) ?_ hHeld ?_
                    rotate_left
                    · (intro ww _; go_simp; try with_reducible rfl)
                    refine wpAnyH_ready (rs := [12]) (by kernel_rfl) (by simp) ?_
                    refine AllReadyH.cons (o := ⟨none, _, _, _, _, _⟩) rfl (fun K hK => ?_) AllReadyH.nil
                    refine step_store_row rfl 34 (.tmp 9) (.tmp 85) rfl pb 34 #[.int .i64 0, .int .i64 0] #[.int .i64 x9.k.1, .int .i64 x9.k.2] rfl rfl HZ.out sizeSK rfl (by simp [Value.oneCell']) ?_
                    obtain ⟨Uq3u6, eW⟩ : ∃ Y, Y = Uq3u5.setRow pb #[.int .i64 x9.k.1, .int .i64 x9.k.2] := ⟨_, rfl⟩
                    rw [← eW]
                    have HP9 : Hid (Uq3u6.heap[pb]? = some (.cells #[.int .i64 x9.k.1, .int .i64 x9.k.2] 34)) := (by rw [eW]; exact setRow_same HZ.out)
                    have hbz : Below wr.heap.size wr Uq3u6 := (by rw [eW]; exact hHeld.grown (grown_setRow _ _ _) hHeld.size (fun k e => by cases e; exact HNb.out))
                    clear eW
                    refine hK.out _ _ (hbz) (fun hHeld2 => ?_)
                    clear hK K hHeld
                    have hHeld := hHeld2
                    clear hHeld2
                    (try simp only [Act.put, List.setIfInBounds_toArray, List.set_cons_zero, List.set_cons_succ])
                    clear hbz HZ HNb
                    refine tkW 13 (some 10) (v := ?_) ?_ hHeld ?_
                    rotate_left
                    · (intro ww _; go_simp; try with_reducible rfl)
                    refine wpAnyH_done (by kernel_rfl) ?_ _
                    obtain ⟨U4, eU⟩ : ∃ X, X = Uq3u6 := ⟨_, rfl⟩
                    rw [← eU] at hHeld HP9 ⊢
                    clear eU
                    have HB4 := hide9 (HBr.out.trans (hHeld.mono HBr.out.size))
                    have HKc4 : Hid (gk < U4.heap.size ∧ U4.cell? ⟨gk, i * 2, none⟩ = some (.int .i64 x9.k.1) ∧ U4.cell? ⟨gk, i * 2 + 1, none⟩ = some (.int .i64 x9.k.2)) := ⟨Nat.lt_of_lt_of_le HKc.out.1 HB4.out.size, (HB4.out.cell (p := ⟨gk, i * 2, none⟩) HKc.out.1).trans HKc.out.2.1, (HB4.out.cell (p := ⟨gk, i * 2 + 1, none⟩) HKc.out.1).trans HKc.out.2.2⟩
                    clear hHeld HBr HS8 HX8 HKy HPk
                    go_upto_region 17 with fail
                    refine wp_region_held_drew (S := fun W' => Below U4.heap.size U4 W') (by kernel_rfl) (Below.refl _ _).drew (fun hHeld => ?_)
                    obtain ⟨Ur5u0, eW⟩ : ∃ X, X = U4.drew := ⟨_, rfl⟩
                    have hb : Below U4.heap.size U4 Ur5u0 := by rw [eW]; exact (Below.refl _ _).drew
                    rw [← eW] at hHeld ⊢
                    clear eW hb
                    refine tkW 0 (some 87) (v := ?_) ?_ hHeld ?_
                    rotate_left
                    · (intro ww _; go_simp; try with_reducible rfl)
                    refine tkW 1 (some 88) (v := ?_) ?_ hHeld ?_
                    rotate_left
                    · (intro ww _; go_simp; try with_reducible rfl)
                    refine tkW 2 (some 89) (v := ?_) ?_ hHeld ?_
                    rotate_left
                    · (intro ww _; go_simp; try with_reducible rfl)
                    refine tkW 3 (some 90) (v := ?_) ?_ hHeld ?_
                    rotate_left
                    · (intro ww hSw; (try dsimp only at hSw); have c9 : ww.cell? ⟨pb, 0, none⟩ = some (.int .i64 x9.k.1) := (by rw [cell_of_row _ _ _ _ _ _ ((hSw.block _ (row_lt HP9.out)).trans HP9.out)]; rfl); have c8 : ww.cell? ⟨pb, 1, none⟩ = some (.int .i64 x9.k.2) := (by rw [cell_of_row _ _ _ _ _ _ ((hSw.block _ (row_lt HP9.out)).trans HP9.out)]; rfl); go_simp; try with_reducible rfl)
                    refine tkW 4 (some 91) (v := ?_) ?_ hHeld ?_
                    rotate_left
                    · (intro ww _; go_simp; try with_reducible rfl)
                    refine tkW 5 (some 92) (v := ?_) ?_ hHeld ?_
                    rotate_left
                    · (intro ww _; go_simp; try with_reducible rfl)
                    refine tkW 6 (some 93) (v := ?_) ?_ hHeld ?_
                    rotate_left
                    · (intro ww hSw; (try dsimp only at hSw); go_simp; try with_reducible rfl)
                    refine tkW 7 (some 94) (v := ?_) ?_ hHeld ?_
                    rotate_left
                    · (intro ww hSw; (try dsimp only at hSw); have c9 : ww.cell? ⟨gk, i * 2, none⟩ = some (.int .i64 x9.k.1) := (hSw.cell (p := ⟨gk, i * 2, none⟩) HKc4.out.1).trans HKc4.out.2.1; have c8 : ww.cell? ⟨gk, i * 2 + 1, none⟩ = some (.int .i64 x9.k.2) := (hSw.cell (p := ⟨gk, i * 2 + 1, none⟩) HKc4.out.1).trans HKc4.out.2.2; go_simp; try with_reducible rfl)
                    refine tkW 8 (some 95) (v := ?_) ?_ hHeld ?_
                    rotate_left
                    · (intro ww hSw; (try dsimp only at hSw); have hq := neqStF x9.k.1 x9.k.2; go_simp; try with_reducible rfl)
                    refine tkW 9 (some 96) (v := ?_) ?_ hHeld ?_
                    rotate_left
                    · (intro ww _; go_simp; try with_reducible rfl)
                    refine wpAnyH_done (by kernel_rfl) ?_ _
                    have HBr := hide9 (HB4.out.trans (hHeld.mono HB4.out.size))
                    clear hHeld
                    have n1 : IntKind.i64.wrap ((j : Int) + 1) = (j : Int) + 1 := by rw [IntKind.wrap_i64]; omega
                    go_wp2
                    go_roundw
                    case rel => exact ⟨j + 1, by omega, by go_num, HBr⟩
                    case measure => simp [intOf]; omega
                · have j1 : ¬ (j : Int) < (x9.ks.length : Int) := by omega
                  have HS2 : Hid (VfS w G t aa ca ak ck (.slice (some ⟨gl, 0, none⟩) t.sz cl) (.slice (some ⟨gk, 0, none⟩) t.sz ck2) L wr) := HS.out.below HBr.out
                  have n1 : IntKind.i64.wrap ((i : Int) + 1) = (i : Int) + 1 := by rw [IntKind.wrap_i64]; omega
                  go_wp2
                  go_roundw
                  case rel => exact ⟨i + 1, by omega, by go_num, HS2⟩
                  case measure => simp [intOf]; omega
            · have HNb : Hid (wr.heap.size ≤ Up1u0.heap.size) := hHeld.size
              have hbx : Below Up1u0.heap.size Up1u0 (Up1u0.alloc (.cells #[.int .i64 0, .int .i64 0, .string ⟨#[]⟩, .string ⟨#[]⟩, .slice none 0 0, .slice none 0 0] 38)) := (Below.refl _ _).alloc (Nat.le_refl _) _
              go_simp
              refine hK.out _ _ (hHeld.trans (hbx.mono hHeld.size)) (fun hHeld2 => ?_)
              clear hK K hHeld
              have hHeld := hHeld2
              clear hHeld2
              (try simp only [Act.put, List.setIfInBounds_toArray, List.set_cons_zero, List.set_cons_succ])
              obtain ⟨Up1u4, eW⟩ : ∃ X, X = Up1u0.alloc (.cells #[.int .i64 0, .int .i64 0, .string ⟨#[]⟩, .string ⟨#[]⟩, .slice none 0 0, .slice none 0 0] 38) := ⟨_, rfl⟩
              have hb : Below Up1u0.heap.size Up1u0 Up1u4 := by rw [eW]; exact (Below.refl _ _).alloc (Nat.le_refl _) _
              have HZ : Hid (Up1u4.heap[Up1u0.heap.size]? = some (.cells #[.int .i64 0, .int .i64 0, .string ⟨#[]⟩, .string ⟨#[]⟩, .slice none 0 0, .slice none 0 0] 38)) := by rw [eW]; exact heap_alloc_new _ _
              rw [← eW] at hHeld ⊢
              clear eW
              clear hbx
              obtain ⟨nb, enb⟩ : ∃ b, b = Up1u0.heap.size := ⟨_, rfl⟩
              skip
              rw [← enb] at HZ HNb ⊢
              clear enb
              clear hb
              refine wpAnyH_ready (rs := [5]) (by kernel_rfl) (by simp) ?_
              refine AllReadyH.cons (o := ⟨some 55, _, _, _, _, _⟩) rfl (fun K hK => ?_) AllReadyH.nil
              go_wp2_with fail
              refine (find_any G t x.k _ _ (VIs.of (HS.out.fd.below hHeld)) hsz).mono ?_
              rintro e Up1u5 ⟨x9, av, kv9, F, rfl, hx9, hsp, hF, hb⟩
              rw [HFn.out] at hx9 ⊢
              have hx8 : x9 = x := hx9.symm
              subst hx8
              obtain ⟨sa, sc, sk, dk, ea, ek⟩ := SepF.form _ hsp
              subst ea ek
              have HNn : Hid (∀ k, F k → k ≠ nb) := fun k q e => (by have h1 := (hF k q).1; have h2 := row_lt HZ.out; omega)
              have HZ : Hid (Up1u5.heap[nb]? = some (.cells #[.int .i64 0, .int .i64 0, .string ⟨#[]⟩, .string ⟨#[]⟩, .slice none 0 0, .slice none 0 0] 38)) := (hb.block _ (row_lt HZ.out)).trans HZ.out
              have HSq : Hid (Sq x9 F (.slice sa x9.at_.length sc) (.slice sk x9.ks.length dk) Up1u5) := ⟨hsp, fun k q => (hF k q).2⟩
              (try go_wp2_with fail)
              refine hK.out _ _ (hHeld.trans (hb.mono hHeld.size)) (fun hHeld2 => ?_)
              clear hK K hHeld
              have hHeld := hHeld2
              clear hHeld2
              (try simp only [Act.put, List.setIfInBounds_toArray, List.set_cons_zero, List.set_cons_succ])
              clear hb hsp hF hx9
              refine tkW 6 (some 49) (v := ?_) ?_ hHeld ?_
              rotate_left
              · (intro ww _; go_simp; try with_reducible rfl)
              refine tkW 7 (some 56) (v := ?_) ?_ hHeld ?_
              rotate_left
              · (intro ww _; go_simp; try with_reducible rfl)
              refine tkW 8 (some 57) (v := ?_) ?_ hHeld ?_
              rotate_left
              · (intro ww _; go_simp; try with_reducible rfl)
              refine wpAnyH_ready (rs := [10]) (by kernel_rfl) (by simp) ?_
              refine AllReadyH.cons (o := ⟨none, _, _, _, _, _⟩) rfl (fun K hK => ?_) AllReadyH.nil
              refine step_store_row rfl 38 (.tmp 6) (.tmp 56) rfl nb 38 #[.int .i64 0, .int .i64 0, .string ⟨#[]⟩, .string ⟨#[]⟩, .slice none 0 0, .slice none 0 0] #[.int .i64 x9.k.1, .int .i64 x9.k.2, .string x9.tg, .string x9.tx, (.slice sa x9.at_.length sc), (.slice sk x9.ks.length dk)] rfl rfl HZ.out sizeVK rfl (by simp [Value.oneCell']) ?_
              obtain ⟨Up1u6, eW⟩ : ∃ Y, Y = Up1u5.setRow nb #[.int .i64 x9.k.1, .int .i64 x9.k.2, .string x9.tg, .string x9.tx, (.slice sa x9.at_.length sc), (.slice sk x9.ks.length dk)] := ⟨_, rfl⟩
              rw [← eW]
              have HX9 : Hid (Up1u6.heap[nb]? = some (.cells #[.int .i64 x9.k.1, .int .i64 x9.k.2, .string x9.tg, .string x9.tx, (.slice sa x9.at_.length sc), (.slice sk x9.ks.length dk)] 38)) := (by rw [eW]; exact setRow_same HZ.out)
              have HSq9 : Hid (Sq x9 F (.slice sa x9.at_.length sc) (.slice sk x9.ks.length dk) Up1u6) := (by rw [eW]; exact HSq.out.row HNn.out)
              have hbz : Below wr.heap.size wr Up1u6 := (by rw [eW]; exact hHeld.grown (grown_setRow _ _ _) hHeld.size (fun k e => by cases e; exact HNb.out))
              clear eW
              refine hK.out _ _ (hbz) (fun hHeld2 => ?_)
              clear hK K hHeld
              have hHeld := hHeld2
              clear hHeld2
              (try simp only [Act.put, List.setIfInBounds_toArray, List.set_cons_zero, List.set_cons_succ])
              clear hbz HZ HSq HNn
              refine tkW 11 (some 7) (v := ?_) ?_ hHeld ?_
              rotate_left
              · (intro ww _; go_simp; try with_reducible rfl)
              refine wpAnyH_done (by kernel_rfl) ?_ _
              obtain ⟨U, eU⟩ : ∃ X, X = Up1u6 := ⟨_, rfl⟩
              rw [← eU] at hHeld HX9 HSq9 ⊢
              clear eU
              replace HS : Hid (VfS w G t aa ca ak ck (.slice (some ⟨gl, 0, none⟩) t.sz cl) (.slice (some ⟨gk, 0, none⟩) t.sz ck2) L U) := HS.out.below hHeld
              have HXc9 := hide9 HXc.out
              replace HXc : Hid (gl < U.heap.size ∧ U.cell? ⟨gl, i * 6, none⟩ = some (.int .i64 x9.k.1) ∧ U.cell? ⟨gl, i * 6 + 1, none⟩ = some (.int .i64 x9.k.2) ∧ U.cell? ⟨gl, i * 6 + 2, none⟩ = some (.string x9.tg) ∧ U.cell? ⟨gl, i * 6 + 3, none⟩ = some (.string x9.tx) ∧ U.cell? ⟨gl, i * 6 + 4, none⟩ = some (.slice xa x9.at_.length cx) ∧ U.cell? ⟨gl, i * 6 + 5, none⟩ = some (.slice xk x9.ks.length dx)) := ⟨Nat.lt_of_lt_of_le HXc9.out.1 hHeld.size, ckCells6 hHeld HXc9.out⟩
              replace HKc : Hid (gk < U.heap.size ∧ U.cell? ⟨gk, i * 2, none⟩ = some (.int .i64 x9.k.1) ∧ U.cell? ⟨gk, i * 2 + 1, none⟩ = some (.int .i64 x9.k.2)) := ⟨Nat.lt_of_lt_of_le HKc.out.1 hHeld.size, (hHeld.cell (p := ⟨gk, i * 2, none⟩) HKc.out.1).trans HKc.out.2.1, (hHeld.cell (p := ⟨gk, i * 2 + 1, none⟩) HKc.out.1).trans HKc.out.2.2⟩
              replace HXf := hide9 (HXf.out.below hHeld)
              clear hHeld HXc9 HFn
              skip
              go_upto_region 11 with fail
              refine wp_region_held_drew (S := fun W' => Below U.heap.size U W') (by kernel_rfl) (Below.refl _ _).drew (fun hHeld => ?_)
              obtain ⟨Un6u0, eW⟩ : ∃ X, X = U.drew := ⟨_, rfl⟩
              have hb : Below U.heap.size U Un6u0 := by rw [eW]; exact (Below.refl _ _).drew
              rw [← eW] at hHeld ⊢
              clear eW hb
              refine tkW 0 (some 58) (v := ?_) ?_ hHeld ?_
              rotate_left
              · (intro ww _; go_simp; try with_reducible rfl)
              refine tkW 1 (some 59) (v := ?_) ?_ hHeld ?_
              rotate_left
              · (intro ww _; go_simp; try with_reducible rfl)
              refine tkW 2 (some 60) (v := ?_) ?_ hHeld ?_
              rotate_left
              · (intro ww _; go_simp; try with_reducible rfl)
              refine tkW 3 (some 61) (v := ?_) ?_ hHeld ?_
              rotate_left
              · (intro ww hSw; (try dsimp only at hSw); obtain ⟨y0, y1, y2, y3, y4, y5⟩ := row6 ((hSw.block _ (row_lt HX9.out)).trans HX9.out); go_simp; try with_reducible rfl)
              refine tkW 4 (some 62) (v := ?_) ?_ hHeld ?_
              rotate_left
              · (intro ww _; go_simp; try with_reducible rfl)
              refine tkW 5 (some 63) (v := ?_) ?_ hHeld ?_
              rotate_left
              · (intro ww _; go_simp; try with_reducible rfl)
              refine tkW 6 (some 64) (v := ?_) ?_ hHeld ?_
              rotate_left
              · (intro ww hSw; (try dsimp only at hSw); go_simp; try with_reducible rfl)
              refine tkW 7 (some 65) (v := ?_) ?_ hHeld ?_
              rotate_left
              · (intro ww hSw; (try dsimp only at hSw); obtain ⟨y0, y1, y2, y3, y4, y5⟩ := ckCells6 hSw HXc.out; go_simp; try with_reducible rfl)
              refine wpAnyH_ready (rs := [8]) (by kernel_rfl) (by simp) ?_
              refine AllReadyH.cons (o := ⟨some 66, _, _, _, _, _⟩) rfl (fun K hK => ?_) AllReadyH.nil
              go_wp2_with fail
              refine (refSame_any _ _ x9 x9 _ _ _ (VIs.of ((HSq9.out.below hHeld).1.vis _)) (VIs.of (HXf.out.below hHeld))).mono ?_
              rintro e Un6u1 ⟨rfl, hb⟩
              rw [eqV_self]
              (try go_wp2_with fail)
              refine hK.out _ _ (hHeld.trans (hb.mono hHeld.size)) (fun hHeld2 => ?_)
              clear hK K hHeld
              have hHeld := hHeld2
              clear hHeld2
              (try simp only [Act.put, List.setIfInBounds_toArray, List.set_cons_zero, List.set_cons_succ])
              clear hb
              refine tkW 9 (some 67) (v := ?_) ?_ hHeld ?_
              rotate_left
              · (intro ww _; go_simp; try with_reducible rfl)
              refine tkW 10 (some 68) (v := ?_) ?_ hHeld ?_
              rotate_left
              · (intro ww _; go_simp; try with_reducible rfl)
              refine wpAnyH_done (by kernel_rfl) ?_ _
              obtain ⟨U2, eU⟩ : ∃ X, X = Un6u1 := ⟨_, rfl⟩
              rw [← eU] at hHeld ⊢
              clear eU
              replace HS : Hid (VfS w G t aa ca ak ck (.slice (some ⟨gl, 0, none⟩) t.sz cl) (.slice (some ⟨gk, 0, none⟩) t.sz ck2) L U2) := HS.out.below hHeld
              replace HSq9 := hide9 (HSq9.out.below hHeld)
              replace HX9 : Hid (U2.heap[nb]? = some (.cells #[.int .i64 x9.k.1, .int .i64 x9.k.2, .string x9.tg, .string x9.tx, (.slice sa x9.at_.length sc), (.slice sk x9.ks.length dk)] 38)) := (hHeld.block _ (row_lt HX9.out)).trans HX9.out
              replace HKc : Hid (gk < U2.heap.size ∧ U2.cell? ⟨gk, i * 2, none⟩ = some (.int .i64 x9.k.1) ∧ U2.cell? ⟨gk, i * 2 + 1, none⟩ = some (.int .i64 x9.k.2)) := ⟨Nat.lt_of_lt_of_le HKc.out.1 hHeld.size, (hHeld.cell (p := ⟨gk, i * 2, none⟩) HKc.out.1).trans HKc.out.2.1, (hHeld.cell (p := ⟨gk, i * 2 + 1, none⟩) HKc.out.1).trans HKc.out.2.2⟩
              clear hHeld HXc HXf
              go_wp2
              have hkl : x9.ks.length ≤ 1466015503701 := (HSq9.out.1.vis _).ks.len
              go_loopw [8] (fun jv wr => ∃ j : Nat, j ≤ x9.ks.length ∧ jv = .int .i64 (j : Int) ∧ Hid (Below U2.heap.size U2 wr)) (fun jv _ => x9.ks.length - (intOf jv).toNat)
              case atStart => exact ⟨0, Nat.zero_le _, rfl, Below.refl _ _⟩
              case round =>
                obtain ⟨j, hj, rfl, HBr⟩ := hrel
                have HX8 : Hid (wr.heap[nb]? = some (.cells #[.int .i64 x9.k.1, .int .i64 x9.k.2, .string x9.tg, .string x9.tx, (.slice sa x9.at_.length sc), (.slice sk x9.ks.length dk)] 38)) := (HBr.out.block _ (row_lt HX9.out)).trans HX9.out
                obtain ⟨y0, y1, y2, y3, y4, y5⟩ := row6 HX8.out
                by_cases hltj : j < x9.ks.length
                · have j1 : (j : Int) < (x9.ks.length : Int) := by omega
                  have j0 : (0 : Int) ≤ (j : Int) := by omega
                  obtain ⟨b2, o2, esk, _, hb2, hat⟩ := ((HSq9.out.below HBr.out).1.vis _).ks.kid hltj
                  subst esk
                  obtain ⟨_, _, _, _, kc0, kc1, _⟩ := hat.cells
                  have hkd := HKd.out _ (List.getElem_mem hltj)
                  obtain ⟨y, ey⟩ : ∃ y, y = x9.ks[j] := ⟨_, rfl⟩
                  rw [← ey] at kc0 kc1 hkd
                  have HKy : Hid (b2 < wr.heap.size ∧ wr.cell? ⟨b2, o2 + j * 6, none⟩ = some (.int .i64 y.k.1) ∧ wr.cell? ⟨b2, o2 + j * 6 + 1, none⟩ = some (.int .i64 y.k.2)) := ⟨hb2, kc0, kc1⟩
                  have HPk := hide9 hkd
                  clear kc0 kc1 hkd ey hat hb2
                  go_upto_region 16 with fail
                  clear y0 y1 y2 y3 y4 y5
                  have HS8 : Hid (VfS w G t aa ca ak ck (.slice (some ⟨gl, 0, none⟩) t.sz cl) (.slice (some ⟨gk, 0, none⟩) t.sz ck2) L wr) := HS.out.below HBr.out
                  refine wp_region_held_drew (S := fun W' => Below wr.heap.size wr W') (by kernel_rfl) (Below.refl _ _).drew (fun hHeld => ?_)
                  obtain ⟨Uq7u0, eW⟩ : ∃ X, X = wr.drew := ⟨_, rfl⟩
                  have hb : Below wr.heap.size wr Uq7u0 := by rw [eW]; exact (Below.refl _ _).drew
                  rw [← eW] at hHeld ⊢
                  clear eW hb
                  refine tkW 0 (some 77) (v := ?_) ?_ hHeld ?_
                  rotate_left
                  · (intro ww hSw; (try dsimp only at hSw); obtain ⟨y0, y1, y2, y3, y4, y5⟩ := row6 ((hSw.block _ (row_lt HS8.out.b)).trans HS8.out.b); go_simp; try with_reducible rfl)
                  refine tkW 1 (some 78) (v := ?_) ?_ hHeld ?_
                  rotate_left
                  · (intro ww _; go_simp; try with_reducible rfl)
                  refine tkW 2 (some 79) (v := ?_) ?_ hHeld ?_
                  rotate_left
                  · (intro ww hSw; (try dsimp only at hSw); obtain ⟨y0, y1, y2, y3, y4, y5⟩ := row6 ((hSw.block _ (row_lt HX8.out)).trans HX8.out); go_simp; try with_reducible rfl)
                  refine tkW 3 (some 80) (v := ?_) ?_ hHeld ?_
                  rotate_left
                  · (intro ww _; go_simp; try with_reducible rfl)
                  refine tkW 4 (some 81) (v := ?_) ?_ hHeld ?_
                  rotate_left
                  · (intro ww hSw; (try dsimp only at hSw); go_simp; try with_reducible rfl)
                  refine tkW 5 (some 82) (v := ?_) ?_ hHeld ?_
                  rotate_left
                  · (intro ww _; go_simp; try with_reducible rfl)
                  refine tkW 6 (some 83) (v := ?_) ?_ hHeld ?_
                  rotate_left
                  · (intro ww hSw; (try dsimp only at hSw); have c9 : ww.cell? ⟨b2, o2 + j * 6, none⟩ = some (.int .i64 y.k.1) := (hSw.cell (p := ⟨b2, o2 + j * 6, none⟩) HKy.out.1).trans HKy.out.2.1; have c8 : ww.cell? ⟨b2, o2 + j * 6 + 1, none⟩ = some (.int .i64 y.k.2) := (hSw.cell (p := ⟨b2, o2 + j * 6 + 1, none⟩) HKy.out.1).trans HKy.out.2.2; go_simp; try with_reducible rfl)
                  refine wpAnyH_ready (rs := [7, 11]) (by kernel_rfl) (by simp) ?_
                  refine AllReadyH.cons (o := ⟨some 84, _, _, _, _, _⟩) rfl (fun K hK => ?_) (AllReadyH.cons (o := ⟨some 9, _, _, _, _, _⟩) rfl (fun K hK => ?_) AllReadyH.nil)
                  · go_wp2_with fail
                    refine (parent_any G t y.k _ _ (VIs.of (HS8.out.fd.below hHeld)) hsz).mono ?_
                    rintro e Uq7u1 ⟨rfl, hb⟩
                    rw [HPk.out]
                    (try go_wp2_with fail)
                    refine hK.out _ _ (hHeld.trans (hb.mono hHeld.size)) (fun hHeld2 => ?_)
                    clear hK K hHeld
                    have hHeld := hHeld2
                    clear hHeld2
                    (try simp only [Act.put, List.setIfInBounds_toArray, List.set_cons_zero, List.set_cons_succ])
                    clear hb
                    refine tkW 8 (some 76) (v := ?_) ?_ hHeld ?_
                    rotate_left
                    · (intro ww _; go_simp; try with_reducible rfl)
                    refine tkW 9 (some 85) (v := ?_) ?_ hHeld ?_
                    rotate_left
                    · (intro ww _; go_simp; try with_reducible rfl)
                    refine tkW 10 (some 86) (v := ?_) ?_ hHeld ?_
                    rotate_left
                    · (intro ww _; go_simp; try with_reducible rfl)
                    refine wpAnyH_ready (rs := [11]) (by kernel_rfl) (by simp) ?_
                    refine AllReadyH.cons (o := ⟨some 9, _, _, _, _, _⟩) rfl (fun K hK => ?_) AllReadyH.nil
                    have hbx : Below Uq7u1.heap.size Uq7u1 (Uq7u1.alloc (.cells #[.int .i64 0, .int .i64 0] 34)) := (Below.refl _ _).alloc (Nat.le_refl _) _
                    have HNb : Hid (wr.heap.size ≤ Uq7u1.heap.size) := hHeld.size
                    go_simp
                    refine hK.out _ _ (hHeld.trans (hbx.mono hHeld.size)) (fun hHeld2 => ?_)
                    clear hK K hHeld
                    have hHeld := hHeld2
                    clear hHeld2
                    (try simp only [Act.put, List.setIfInBounds_toArray, List.set_cons_zero, List.set_cons_succ])
                    obtain ⟨Uq7u2, eW⟩ : ∃ X, X = Uq7u1.alloc (.cells #[.int .i64 0, .int .i64 0] 34) := ⟨_, rfl⟩
                    have hb : Below Uq7u1.heap.size Uq7u1 Uq7u2 := by rw [eW]; exact (Below.refl _ _).alloc (Nat.le_refl _) _
                    have HZ : Hid (Uq7u2.heap[Uq7u1.heap.size]? = some (.cells #[.int .i64 0, .int .i64 0] 34)) := by rw [eW]; exact heap_alloc_new _ _
                    rw [← eW] at hHeld ⊢
                    clear eW
                    clear hbx
                    obtain ⟨pb, enb⟩ : ∃ b, b = Uq7u1.heap.size := ⟨_, rfl⟩
                    rw [← enb] at HZ HNb ⊢
                    clear enb
                    clear hb
                    refine wpAnyH_ready (rs := [12]) (by kernel_rfl) (by simp) ?_
                    refine AllReadyH.cons (o := ⟨none, _, _, _, _, _⟩) rfl (fun K hK => ?_) AllReadyH.nil
                    refine step_store_row rfl 34 (.tmp 9) (.tmp 85) rfl pb 34 #[.int .i64 0, .int .i64 0] #[.int .i64 x9.k.1, .int .i64 x9.k.2] rfl rfl HZ.out sizeSK rfl (by simp [Value.oneCell']) ?_
                    obtain ⟨Uq7u3, eW⟩ : ∃ Y, Y = Uq7u2.setRow pb #[.int .i64 x9.k.1, .int .i64 x9.k.2] := ⟨_, rfl⟩
                    rw [← eW]
                    have HP9 : Hid (Uq7u3.heap[pb]? = some (.cells #[.int .i64 x9.k.1, .int .i64 x9.k.2] 34)) := (by rw [eW]; exact setRow_same HZ.out)
                    have hbz : Below wr.heap.size wr Uq7u3 := (by rw [eW]; exact hHeld.grown (grown_setRow _ _ _) hHeld.size (fun k e => by cases e; exact HNb.out))
                    clear eW
                    refine hK.out _ _ (hbz) (fun hHeld2 => ?_)
                    clear hK K hHeld
                    have hHeld := hHeld2
                    clear hHeld2
                    (try simp only [Act.put, List.setIfInBounds_toArray, List.set_cons_zero, List.set_cons_succ])
                    clear hbz HZ HNb
                    refine tkW 13 (some 10) (v := ?_) ?_ hHeld ?_
                    rotate_left
                    · (intro ww _; go_simp; try with_reducible rfl)
                    refine wpAnyH_done (by kernel_rfl) ?_ _
                    obtain ⟨U4, eU⟩ : ∃ X, X = Uq7u3 := ⟨_, rfl⟩
                    rw [← eU] at hHeld HP9 ⊢
                    clear eU
                    have HB4 := hide9 (HBr.out.trans (hHeld.mono HBr.out.size))
                    have HKc4 : Hid (gk < U4.heap.size ∧ U4.cell? ⟨gk, i * 2, none⟩ = some (.int .i64 x9.k.1) ∧ U4.cell? ⟨gk, i * 2 + 1, none⟩ = some (.int .i64 x9.k.2)) := ⟨Nat.lt_of_lt_of_le HKc.out.1 HB4.out.size, (HB4.out.cell (p := ⟨gk, i * 2, none⟩) HKc.out.1).trans HKc.out.2.1, (HB4.out.cell (p := ⟨gk, i * 2 + 1, none⟩) HKc.out.1).trans HKc.out.2.2⟩
                    clear hHeld HBr HS8 HX8 HKy HPk
                    go_upto_region 17 with fail
                    refine wp_region_held_drew (S := fun W' => Below U4.heap.size U4 W') (by kernel_rfl) (Below.refl _ _).drew (fun hHeld => ?_)
                    obtain ⟨Ur8u0, eW⟩ : ∃ X, X = U4.drew := ⟨_, rfl⟩
                    have hb : Below U4.heap.size U4 Ur8u0 := by rw [eW]; exact (Below.refl _ _).drew
                    rw [← eW] at hHeld ⊢
                    clear eW hb
                    refine tkW 0 (some 87) (v := ?_) ?_ hHeld ?_
                    rotate_left
                    · (intro ww _; go_simp; try with_reducible rfl)
                    refine tkW 1 (some 88) (v := ?_) ?_ hHeld ?_
                    rotate_left
                    · (intro ww _; go_simp; try with_reducible rfl)
                    refine tkW 2 (some 89) (v := ?_) ?_ hHeld ?_
                    rotate_left
                    · (intro ww _; go_simp; try with_reducible rfl)
                    refine tkW 3 (some 90) (v := ?_) ?_ hHeld ?_
                    rotate_left
                    · (intro ww hSw; (try dsimp only at hSw); have c9 : ww.cell? ⟨pb, 0, none⟩ = some (.int .i64 x9.k.1) := (by rw [cell_of_row _ _ _ _ _ _ ((hSw.block _ (row_lt HP9.out)).trans HP9.out)]; rfl); have c8 : ww.cell? ⟨pb, 1, none⟩ = some (.int .i64 x9.k.2) := (by rw [cell_of_row _ _ _ _ _ _ ((hSw.block _ (row_lt HP9.out)).trans HP9.out)]; rfl); go_simp; try with_reducible rfl)
                    refine tkW 4 (some 91) (v := ?_) ?_ hHeld ?_
                    rotate_left
                    · (intro ww _; go_simp; try with_reducible rfl)
                    refine tkW 5 (some 92) (v := ?_) ?_ hHeld ?_
                    rotate_left
                    · (intro ww _; go_simp; try with_reducible rfl)
                    refine tkW 6 (some 93) (v := ?_) ?_ hHeld ?_
                    rotate_left
                    · (intro ww hSw; (try dsimp only at hSw); go_simp; try with_reducible rfl)
                    refine tkW 7 (some 94) (v := ?_) ?_ hHeld ?_
                    rotate_left
                    · (intro ww hSw; (try dsimp only at hSw); have c9 : ww.cell? ⟨gk, i * 2, none⟩ = some (.int .i64 x9.k.1) := (hSw.cell (p := ⟨gk, i * 2, none⟩) HKc4.out.1).trans HKc4.out.2.1; have c8 : ww.cell? ⟨gk, i * 2 + 1, none⟩ = some (.int .i64 x9.k.2) := (hSw.cell (p := ⟨gk, i * 2 + 1, none⟩) HKc4.out.1).trans HKc4.out.2.2; go_simp; try with_reducible rfl)
                    refine tkW 8 (some 95) (v := ?_) ?_ hHeld ?_
                    rotate_left
                    · (intro ww hSw; (try dsimp only at hSw); have hq := neqStF x9.k.1 x9.k.2; go_simp; try with_reducible rfl)
                    refine tkW 9 (some 96) (v := ?_) ?_ hHeld ?_
                    rotate_left
                    · (intro ww _; go_simp; try with_reducible rfl)
                    refine wpAnyH_done (by kernel_rfl) ?_ _
                    have HBr := hide9 (HB4.out.trans (hHeld.mono HB4.out.size))
                    clear hHeld
                    have n1 : IntKind.i64.wrap ((j : Int) + 1) = (j : Int) + 1 := by rw [IntKind.wrap_i64]; omega
                    go_wp2
                    go_roundw
                    case rel => exact ⟨j + 1, by omega, by go_num, HBr⟩
                    case measure => simp [intOf]; omega
                  · have hbx : Below Uq7u0.heap.size Uq7u0 (Uq7u0.alloc (.cells #[.int .i64 0, .int .i64 0] 34)) := (Below.refl _ _).alloc (Nat.le_refl _) _
                    have HNb : Hid (wr.heap.size ≤ Uq7u0.heap.size) := hHeld.size
                    go_simp
                    refine hK.out _ _ (hHeld.trans (hbx.mono hHeld.size)) (fun hHeld2 => ?_)
                    clear hK K hHeld
                    have hHeld := hHeld2
                    clear hHeld2
                    (try simp only [Act.put, List.setIfInBounds_toArray, List.set_cons_zero, List.set_cons_succ])
                    obtain ⟨Uq7u4, eW⟩ : ∃ X, X = Uq7u0.alloc (.cells #[.int .i64 0, .int .i64 0] 34) := ⟨_, rfl⟩
                    have hb : Below Uq7u0.heap.size Uq7u0 Uq7u4 := by rw [eW]; exact (Below.refl _ _).alloc (Nat.le_refl _) _
                    have HZ : Hid (Uq7u4.heap[Uq7u0.heap.size]? = some (.cells #[.int .i64 0, .int .i64 0] 34)) := by rw [eW]; exact heap_alloc_new _ _
                    rw [← eW] at hHeld ⊢
                    clear eW
                    clear hbx
                    obtain ⟨pb, enb⟩ : ∃ b, b = Uq7u0.heap.size := ⟨_, rfl⟩
                    rw [← enb] at HZ HNb ⊢
                    clear enb
                    clear hb
                    refine wpAnyH_ready (rs := [7]) (by kernel_rfl) (by simp) ?_
                    refine AllReadyH.cons (o := ⟨some 84, _, _, _, _, _⟩) rfl (fun K hK => ?_) AllReadyH.nil
                    go_wp2_with fail
                    refine (parent_any G t y.k _ _ (VIs.of (HS8.out.fd.below hHeld)) hsz).mono ?_
                    rintro e Uq7u5 ⟨rfl, hb⟩
                    rw [HPk.out]
                    have HZ : Hid (Uq7u5.heap[pb]? = some (.cells #[.int .i64 0, .int .i64 0] 34)) := (hb.block _ (row_lt HZ.out)).trans HZ.out
                    (try go_wp2_with fail)
                    refine hK.out _ _ (hHeld.trans (hb.mono hHeld.size)) (fun hHeld2 => ?_)
                    clear hK K hHeld
                    have hHeld := hHeld2
                    clear hHeld2
                    (try simp only [Act.put, List.setIfInBounds_toArray, List.set_cons_zero, List.set_cons_succ])
                    clear hb
                    refine tkW 8 (some 76) (v := ?_) ?_ hHeld ?_
                    rotate_left
                    · (intro ww _; go_simp; try with_reducible rfl)
                    refine tkW 9 (some 85) (v := ?_) ?_ hHeld ?_
                    rotate_left
                    · (intro ww _; go_simp; try with_reducible rfl)
                    refine tkW 10 (some 86) (v := ?_) ?_ hHeld ?_
                    rotate_left
                    · (intro ww _; go_simp; try with_reducible rfl)
                    refine wpAnyH_ready (rs := [12]) (by kernel_rfl) (by simp) ?_
                    refine AllReadyH.cons (o := ⟨none, _, _, _, _, _⟩) rfl (fun K hK => ?_) AllReadyH.nil
                    refine step_store_row rfl 34 (.tmp 9) (.tmp 85) rfl pb 34 #[.int .i64 0, .int .i64 0] #[.int .i64 x9.k.1, .int .i64 x9.k.2] rfl rfl HZ.out sizeSK rfl (by simp [Value.oneCell']) ?_
                    obtain ⟨Uq7u6, eW⟩ : ∃ Y, Y = Uq7u5.setRow pb #[.int .i64 x9.k.1, .int .i64 x9.k.2] := ⟨_, rfl⟩
                    rw [← eW]
                    have HP9 : Hid (Uq7u6.heap[pb]? = some (.cells #[.int .i64 x9.k.1, .int .i64 x9.k.2] 34)) := (by rw [eW]; exact setRow_same HZ.out)
                    have hbz : Below wr.heap.size wr Uq7u6 := (by rw [eW]; exact hHeld.grown (grown_setRow _ _ _) hHeld.size (fun k e => by cases e; exact HNb.out))
                    clear eW
                    refine hK.out _ _ (hbz) (fun hHeld2 => ?_)
                    clear hK K hHeld
                    have hHeld := hHeld2
                    clear hHeld2
                    (try simp only [Act.put, List.setIfInBounds_toArray, List.set_cons_zero, List.set_cons_succ])
                    clear hbz HZ HNb
                    refine tkW 13 (some 10) (v := ?_) ?_ hHeld ?_
                    rotate_left
                    · (intro ww _; go_simp; try with_reducible rfl)
                    refine wpAnyH_done (by kernel_rfl) ?_ _
                    obtain ⟨U4, eU⟩ : ∃ X, X = Uq7u6 := ⟨_, rfl⟩
                    rw [← eU] at hHeld HP9 ⊢
                    clear eU
                    have HB4 := hide9 (HBr.out.trans (hHeld.mono HBr.out.size))
                    have HKc4 : Hid (gk < U4.heap.size ∧ U4.cell? ⟨gk, i * 2, none⟩ = some (.int .i64 x9.k.1) ∧ U4.cell? ⟨gk, i * 2 + 1, none⟩ = some (.int .i64 x9.k.2)) := ⟨Nat.lt_of_lt_of_le HKc.out.1 HB4.out.size, (HB4.out.cell (p := ⟨gk, i * 2, none⟩) HKc.out.1).trans HKc.out.2.1, (HB4.out.cell (p := ⟨gk, i * 2 + 1, none⟩) HKc.out.1).trans HKc.out.2.2⟩
                    clear hHeld HBr HS8 HX8 HKy HPk
                    go_upto_region 17 with fail
                    refine wp_region_held_drew (S := fun W' => Below U4.heap.size U4 W') (by kernel_rfl) (Below.refl _ _).drew (fun hHeld => ?_)
                    obtain ⟨Ur9u0, eW⟩ : ∃ X, X = U4.drew := ⟨_, rfl⟩
                    have hb : Below U4.heap.size U4 Ur9u0 := by rw [eW]; exact (Below.refl _ _).drew
                    rw [← eW] at hHeld ⊢
                    clear eW hb
                    refine tkW 0 (some 87) (v := ?_) ?_ hHeld ?_
                    rotate_left
                    · (intro ww _; go_simp; try with_reducible rfl)
                    refine tkW 1 (some 88) (v := ?_) ?_ hHeld ?_
                    rotate_left
                    · (intro ww _; go_simp; try with_reducible rfl)
                    refine tkW 2 (some 89) (v := ?_) ?_ hHeld ?_
                    rotate_left
                    · (intro ww _; go_simp; try with_reducible rfl)
                    refine tkW 3 (some 90) (v := ?_) ?_ hHeld ?_
                    rotate_left
                    · (intro ww hSw; (try dsimp only at hSw); have c9 : ww.cell? ⟨pb, 0, none⟩ = some (.int .i64 x9.k.1) := (by rw [cell_of_row _ _ _ _ _ _ ((hSw.block _ (row_lt HP9.out)).trans HP9.out)]; rfl); have c8 : ww.cell? ⟨pb, 1, none⟩ = some (.int .i64 x9.k.2) := (by rw [cell_of_row _ _ _ _ _ _ ((hSw.block _ (row_lt HP9.out)).trans HP9.out)]; rfl); go_simp; try with_reducible rfl)
                    refine tkW 4 (some 91) (v := ?_) ?_ hHeld ?_
                    rotate_left
                    · (intro ww _; go_simp; try with_reducible rfl)
                    refine tkW 5 (some 92) (v := ?_) ?_ hHeld ?_
                    rotate_left
                    · (intro ww _; go_simp; try with_reducible rfl)
                    refine tkW 6 (some 93) (v := ?_) ?_ hHeld ?_
                    rotate_left
                    · (intro ww hSw; (try dsimp only at hSw); go_simp; try with_reducible rfl)
                    refine tkW 7 (some 94) (v := ?_) ?_ hHeld ?_
                    rotate_left
                    · (intro ww hSw; (try dsimp only at hSw); have c9 : ww.cell? ⟨gk, i * 2, none⟩ = some (.int .i64 x9.k.1) := (hSw.cell (p := ⟨gk, i * 2, none⟩) HKc4.out.1).trans HKc4.out.2.1; have c8 : ww.cell? ⟨gk, i * 2 + 1, none⟩ = some (.int .i64 x9.k.2) := (hSw.cell (p := ⟨gk, i * 2 + 1, none⟩) HKc4.out.1).trans HKc4.out.2.2; go_simp; try with_reducible rfl)
                    refine tkW 8 (some 95) (v := ?_) ?_ hHeld ?_
                    rotate_left
                    · (intro ww hSw; (try dsimp only at hSw); have hq := neqStF x9.k.1 x9.k.2; go_simp; try with_reducible rfl)
                    refine tkW 9 (some 96) (v := ?_) ?_ hHeld ?_
                    rotate_left
                    · (intro ww _; go_simp; try with_reducible rfl)
                    refine wpAnyH_done (by kernel_rfl) ?_ _
                    have HBr := hide9 (HB4.out.trans (hHeld.mono HB4.out.size))
                    clear hHeld
                    have n1 : IntKind.i64.wrap ((j : Int) + 1) = (j : Int) + 1 := by rw [IntKind.wrap_i64]; omega
                    go_wp2
                    go_roundw
                    case rel => exact ⟨j + 1, by omega, by go_num, HBr⟩
                    case measure => simp [intOf]; omega
                · have j1 : ¬ (j : Int) < (x9.ks.length : Int) := by omega
                  have HS2 : Hid (VfS w G t aa ca ak ck (.slice (some ⟨gl, 0, none⟩) t.sz cl) (.slice (some ⟨gk, 0, none⟩) t.sz ck2) L wr) := HS.out.below HBr.out
                  have n1 : IntKind.i64.wrap ((i : Int) + 1) = (i : Int) + 1 := by rw [IntKind.wrap_i64]; omega
                  go_wp2
                  go_roundw
                  case rel => exact ⟨i + 1, by omega, by go_num, HS2⟩
                  case measure => simp [intOf]; omega
          · have k1 : ¬ (i : Int) < (t.sz : Int) := by omega
            obtain ⟨y0, y1, y2, y3, y4, y5⟩ := row6 HS.out.b
            go_wp2_with fail
            clear y0 y1 y2 y3 y4 y5
            refine (parent_any G t t.k _ _ (VIs.of HS.out.fd) hsz).mono ?_
            rintro e W6 ⟨rfl, hb⟩
            rw [par_root]
            have BL := hide9 (HS.out.bel.trans (hb.mono HS.out.bel.size))
            clear hb HS
            obtain ⟨W7, eW⟩ : ∃ X, X = (W6.alloc (.cells #[.int .i64 0, .int .i64 0] 34)).setRow W6.heap.size #[.int .i64 0, .int .i64 0] := ⟨_, rfl⟩
            have Hz : Hid ((W6.alloc (.cells #[.int .i64 0, .int .i64 0] 34)).heap[W6.heap.size]? = some (.cells #[.int .i64 0, .int .i64 0] 34)) := heap_alloc_new _ _
            have hb7 : Below W6.heap.size W6 W7 := (by rw [eW]; exact ((Below.refl _ _).alloc (Nat.le_refl _) _).grown (grown_setRow _ _ _) (by simp) (fun k e => by cases e; exact Nat.le_refl _))
            replace BL := hide9 (BL.out.trans (hb7.mono BL.out.size))
            have HE7 := hide9 eW
            clear hb7 eW
            go_wp2_with (refine wpList_store_row rfl 34 (.tmp 11) (.tmp 102) rfl W6.heap.size 34 #[.int .i64 0, .int .i64 0] #[.int .i64 0, .int .i64 0] rfl rfl Hz.out sizeSK rfl (by simp [Value.oneCell']) ?_)
            rw [← HE7.out]
            refine (awake_any _).mono ?_
            rintro e w9 ⟨rfl, hb⟩
            have B9 := hide9 (BL.out.trans (hb.mono BL.out.size))
            clear hb
            go_wp2
            go_ret
            exact ⟨rfl, B9.out⟩
    · obtain ⟨z, ez⟩ : ∃ z, z = chkT t := ⟨_, rfl⟩
      rw [← ez] at hck ⊢
      have q1 : (z != 0) = true := (by simpa using hck)
      clear hck ez
      go_wp2_with fail
      refine (awake_any _).mono ?_
      rintro e w9 ⟨rfl, hb⟩
      have B9 := hide9 (BL.out.trans (hb.mono BL.out.size))
      clear hb
      go_wp2
      go_ret
      exact ⟨rfl, B9.out⟩

theorem vtreeFinds_walk (v : Value) (t : VT) (w : World) (h : VIs (fun _ => True) w v t) (hbn : BnA t) (hsz : t.sz ≤ 1048576) :
    Calls Try.prog 4 #[v] w fun e w' => e = .returned (.bool true) ∧ Below w.heap.size w w' := vtreeFinds_walk0 _ v t w h hbn hsz

end Go.Proofs.Ytnanlmmmppcipab
