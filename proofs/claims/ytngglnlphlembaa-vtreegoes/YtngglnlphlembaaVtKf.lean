/- The document's Keys and Find; whether two rows of stamps are the same. -/
import Derived.Test.YtngglnlphlembaaVtKd
import Derived.Deep.Cut
namespace Go.Proofs.Ytngglnlphlembaa
open Go.RowKit Go.Shelf
set_option linter.unusedVariables false
set_option linter.unusedSimpArgs false

theorem sizeVF : (Try.prog.info? 27).map (·.size) = some 6 := by kernel_rfl
set_option maxRecDepth 100000 in
set_option maxHeartbeats 4000000 in
theorem flatN_any (N : Nat) (t : VT) (v : Value) (w : World) (hN : N ≤ w.heap.size) (hv : VIs (fun k => k < N) w v t) (hsz : t.sz ≤ 1048576) : Calls Try.prog 9 #[v] w fun e w' => ∃ v' E, e = .returned v' ∧ OwnVn N w' v' E ∧ E.map Prod.fst = flT t ∧ (∀ x ∈ E, FdIs (fun k => k < N) w' x.2.1 x.2.2 x.1.at_ x.1.ks) ∧ Below w.heap.size w w' := by
  obtain ⟨aa, ca, ak, ck, e1, fd⟩ := hv.form
  subst e1
  obtain ⟨W1, eW1⟩ : ∃ X, X = (w.alloc (.cells #[.int .i64 t.k.1, .int .i64 t.k.2, .string t.tg, .string t.tx, .slice aa t.at_.length ca, .slice ak t.ks.length ck] 27)) := ⟨_, rfl⟩
  obtain ⟨W2, eW2⟩ : ∃ X, X = W1.alloc (.cells #[] 27) := ⟨_, rfl⟩
  have hb1 : Below w.heap.size w W1 := (by rw [eW1]; exact (Below.refl _ _).alloc (Nat.le_refl _) _)
  have hs1 : W1.heap.size = w.heap.size + 1 := (by rw [eW1]; simp)
  have hb2 : Below W1.heap.size W1 W2 := (by rw [eW2]; exact (Below.refl _ _).alloc (Nat.le_refl _) _)
  have hbb := hb1.trans (hb2.mono hb1.size)
  have HO : Hid (OwnVn N W2 (.slice (some ⟨w.heap.size + 1, 0, none⟩) 0 0) []) := (by rw [eW2, ← hs1]; exact World.ownsRow_made W1 #[] 0 (by omega) (by unfold maxLen; omega) (by simp))
  have HV : Hid (FdIs (fun k => k < N) W2 (.slice aa t.at_.length ca) (.slice ak t.ks.length ck) t.at_ t.ks) := fd.turn hbb.size fun k q _ => ⟨q, hbb.block k (by omega)⟩
  have HB := hide9 hbb
  have HE := hide9 (And.intro eW1 eW2)
  clear hv fd hb1 hb2 hbb hs1 eW1 eW2
  go_enter Try.func9, Try.ntmps9
  go_wp2_with fail
  rw [← HE.out.1, ← HE.out.2]
  clear HE
  refine (flat_n N t.sz t _ _ [] _ (Nat.le_refl _) (VIs.of HV.out) HO.out ⟨_, _, rfl⟩ (Nat.le_trans hN HB.out.size) (by simpa using hsz)).mono ?_
  rintro e W3 ⟨v', E', rfl, h1, h2, h3, h4, _, g3, c3, e3⟩
  have HP := hide9 (And.intro h1 (And.intro h2 (And.intro h3 (HB.out.trans (h4.below (fun k q => by have h9 : w.heap.size + 1 = k := (by simpa [Value.ownBlock] using q); omega) HB.out.size)))))
  obtain ⟨n3, en3⟩ : ∃ n, n = ([] ++ E').length := ⟨_, rfl⟩
  rw [← en3] at e3
  subst e3
  clear en3
  clear h1 h2 h3 h4
  go_wp2
  go_ret
  exact ⟨_, _, rfl, HP.out.1, HP.out.2.1, HP.out.2.2.1, HP.out.2.2.2⟩

end Go.Proofs.Ytngglnlphlembaa
