/- The tree of a Doc with nothing in it; does the program answer? -/
import Derived.Test.YtngglnlphlembaaVtH
namespace Go.Proofs.Ytngglnlphlembaa
open Go.RowKit
set_option linter.unusedVariables false
set_option linter.unusedSimpArgs false

set_option maxRecDepth 100000 in
set_option maxHeartbeats 8000000 in
theorem of_nil (w : World) : Calls Try.prog 12 #[.agg #[.slice none 0 0, .slice none 0 0, .slice none 0 0, .slice none 0 0]] w fun e w' => e = .returned (.tuple #[.agg #[.int .i64 0, .int .i64 0, .string ⟨#[114, 111, 111, 116]⟩, .string ⟨#[]⟩, .slice none 0 0, .slice none 0 0], .int .i64 0]) ∧ Below w.heap.size w w' := by
  obtain ⟨W3, eW3⟩ : ∃ X, X = ((((((w.alloc (.cells #[.slice none 0 0, .slice none 0 0, .slice none 0 0, .slice none 0 0] 48)).alloc (.cells #[.int .i64 0, .int .i64 0, .string ⟨#[]⟩, .string ⟨#[]⟩, .slice none 0 0, .slice none 0 0] 27)).alloc (.cells #[.slice none 0 0, .slice none 0 0, .slice none 0 0, .slice none 0 0] 48)).alloc (.map #[] 0)).alloc (.map #[] 0)).alloc (.cells #[.map (some (w.heap.size + 3)), .map (some (w.heap.size + 4))] 66)) := ⟨_, rfl⟩
  have hb3 : Below w.heap.size w W3 := (by rw [eW3]; exact ((((((Below.refl _ _).alloc (Nat.le_refl _) _).alloc (by simp <;> omega) _).alloc (by simp <;> omega) _).alloc (by simp <;> omega) _).alloc (by simp <;> omega) _).alloc (by simp <;> omega) _)
  have hs3 : W3.heap.size = w.heap.size + 6 := (by rw [eW3]; simp)
  have hp : W3.heap[w.heap.size + 3]? = some (.map #[] 0) := (by rw [eW3, Below.heap_alloc _ _ _ (by simp <;> omega), Below.heap_alloc _ _ _ (by simp <;> omega)]; have h9 := heap_alloc_new (((w.alloc (.cells #[.slice none 0 0, .slice none 0 0, .slice none 0 0, .slice none 0 0] 48)).alloc (.cells #[.int .i64 0, .int .i64 0, .string ⟨#[]⟩, .string ⟨#[]⟩, .slice none 0 0, .slice none 0 0] 27)).alloc (.cells #[.slice none 0 0, .slice none 0 0, .slice none 0 0, .slice none 0 0] 48)) (.map #[] 0); rw [show (((w.alloc (.cells #[.slice none 0 0, .slice none 0 0, .slice none 0 0, .slice none 0 0] 48)).alloc (.cells #[.int .i64 0, .int .i64 0, .string ⟨#[]⟩, .string ⟨#[]⟩, .slice none 0 0, .slice none 0 0] 27)).alloc (.cells #[.slice none 0 0, .slice none 0 0, .slice none 0 0, .slice none 0 0] 48)).heap.size = w.heap.size + 3 by simp] at h9; exact h9)
  have ha : W3.heap[w.heap.size + 4]? = some (.map #[] 0) := (by rw [eW3, Below.heap_alloc _ _ _ (by simp <;> omega)]; have h9 := heap_alloc_new ((((w.alloc (.cells #[.slice none 0 0, .slice none 0 0, .slice none 0 0, .slice none 0 0] 48)).alloc (.cells #[.int .i64 0, .int .i64 0, .string ⟨#[]⟩, .string ⟨#[]⟩, .slice none 0 0, .slice none 0 0] 27)).alloc (.cells #[.slice none 0 0, .slice none 0 0, .slice none 0 0, .slice none 0 0] 48)).alloc (.map #[] 0)) (.map #[] 0); rw [show ((((w.alloc (.cells #[.slice none 0 0, .slice none 0 0, .slice none 0 0, .slice none 0 0] 48)).alloc (.cells #[.int .i64 0, .int .i64 0, .string ⟨#[]⟩, .string ⟨#[]⟩, .slice none 0 0, .slice none 0 0] 27)).alloc (.cells #[.slice none 0 0, .slice none 0 0, .slice none 0 0, .slice none 0 0] 48)).alloc (.map #[] 0)).heap.size = w.heap.size + 4 by simp] at h9; exact h9)
  have hr : W3.heap[w.heap.size + 1]? = some (.cells #[.int .i64 0, .int .i64 0, .string ⟨#[]⟩, .string ⟨#[]⟩, .slice none 0 0, .slice none 0 0] 27) := (by rw [eW3, Below.heap_alloc _ _ _ (by simp <;> omega), Below.heap_alloc _ _ _ (by simp <;> omega), Below.heap_alloc _ _ _ (by simp <;> omega), Below.heap_alloc _ _ _ (by simp <;> omega)]; have h9 := heap_alloc_new (w.alloc (.cells #[.slice none 0 0, .slice none 0 0, .slice none 0 0, .slice none 0 0] 48)) (.cells #[.int .i64 0, .int .i64 0, .string ⟨#[]⟩, .string ⟨#[]⟩, .slice none 0 0, .slice none 0 0] 27); rw [show (w.alloc (.cells #[.slice none 0 0, .slice none 0 0, .slice none 0 0, .slice none 0 0] 48)).heap.size = w.heap.size + 1 by simp] at h9; exact h9)
  have HP : Hid (MapIs Prod.fst Prod.snd W3 (w.heap.size + 3) ([] : List (St × Value))) := ⟨#[], 0, hp, ⟨rfl, List.nodup_nil, fun x h => by simp at h⟩⟩
  have HA : Hid (MapIs id kU W3 (w.heap.size + 4) ([] : List St)) := ⟨#[], 0, ha, ⟨rfl, List.nodup_nil, fun x h => by simp at h⟩⟩
  have HR := hide9 hr
  have HB := hide9 hb3
  have HE := hide9 eW3
  have hmm := @run_makeMap Try.prog
  clear hp ha hr hb3 hs3 eW3
  go_enter Try.func12, Try.ntmps12
  go_wp2_with fail
  refine (split_nil _).mono ?_
  rintro e w' ⟨rfl, hw⟩
  subst hw
  simp only [World.size_alloc]
  go_wp2_with fail
  rw [← HE.out]
  clear HE hmm
  refine (grow_first (w.heap.size + 3) (w.heap.size + 4) (0, 0) ⟨#[114, 111, 111, 116]⟩ W3 HP.out HA.out (by omega)).mono ?_
  rintro e W5 ⟨rfl, ht⟩
  have hlr := row_lt HR.out
  have hr5 : W5.heap[w.heap.size + 1]? = some (.cells #[.int .i64 0, .int .i64 0, .string ⟨#[]⟩, .string ⟨#[]⟩, .slice none 0 0, .slice none 0 0] 27) := (ht.block _ hlr (by omega)).trans HR.out
  have hb5 : Below w.heap.size w W5 := HB.out.trans (ht.below (by omega) HB.out.size)
  obtain ⟨W6, eW6⟩ : ∃ X, X = W5.alloc (.cells #[.int .i64 0, .int .i64 0, .string ⟨#[114, 111, 111, 116]⟩, .string ⟨#[]⟩, .slice none 0 0, .slice none 0 0] 27) := ⟨_, rfl⟩
  have hb6 : Below W5.heap.size W5 W6 := (by rw [eW6]; exact (Below.refl _ _).alloc (Nat.le_refl _) _)
  have HR6 : Hid (W6.heap[w.heap.size + 1]? = some (.cells #[.int .i64 0, .int .i64 0, .string ⟨#[]⟩, .string ⟨#[]⟩, .slice none 0 0, .slice none 0 0] 27)) := (hb6.block _ (row_lt hr5)).trans hr5
  have HE5 : Hid ((W6.setRow (w.heap.size + 1) #[.int .i64 0, .int .i64 0, .string ⟨#[114, 111, 111, 116]⟩, .string ⟨#[]⟩, .slice none 0 0, .slice none 0 0]).heap[w.heap.size + 1]? = some (.cells #[.int .i64 0, .int .i64 0, .string ⟨#[114, 111, 111, 116]⟩, .string ⟨#[]⟩, .slice none 0 0, .slice none 0 0] 27)) := setRow_same HR6.out
  have HB6 : Hid (Below w.heap.size w (W6.setRow (w.heap.size + 1) #[.int .i64 0, .int .i64 0, .string ⟨#[114, 111, 111, 116]⟩, .string ⟨#[]⟩, .slice none 0 0, .slice none 0 0])) := (by have h9 := hb5.trans (hb6.mono hb5.size); exact h9.grown (grown_setRow _ _ _) h9.size (fun k e => by cases e; omega))
  have HE6 := hide9 eW6
  clear hr5 hb5 hb6 eW6 ht hlr HR HB HP HA
  go_wp2_with (refine wpList_store_row rfl 27 (.tmp 2) (.tmp 20) rfl (w.heap.size + 1) 27 #[.int .i64 0, .int .i64 0, .string ⟨#[]⟩, .string ⟨#[]⟩, .slice none 0 0, .slice none 0 0] #[.int .i64 0, .int .i64 0, .string ⟨#[114, 111, 111, 116]⟩, .string ⟨#[]⟩, .slice none 0 0, .slice none 0 0] rfl rfl (by rw [← HE6.out]; exact HR6.out) sizeVN rfl (by simp [Value.oneCell']) ?_)
  rw [← HE6.out]
  refine bodyPost_ret (results_cell_row2 rfl _ _ (w.heap.size + 1) _ _ _ _ rfl HE5.out Try.underlying27 rfl sizeVN rfl) rfl ?_
  exact ⟨rfl, HB6.out⟩

end Go.Proofs.Ytngglnlphlembaa
