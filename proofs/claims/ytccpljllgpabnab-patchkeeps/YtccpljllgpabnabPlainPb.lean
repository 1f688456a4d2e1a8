/- Trees whose nodes lie in blocks: what becomes of them when one is taken out, put in, changed. -/
import Derived.Test.YtccpljllgpabnabPlainPa
namespace Go.Proofs.Ytccpljllgpabnab
set_option linter.unusedVariables false
set_option linter.unusedSimpArgs false

mutual
/-- A tree's keys, in its order. -/
def keysV : VT → List St
  | .node k _ _ _ ks => k :: keysL ks
def keysL : List VT → List St
  | [] => []
  | t :: r => keysV t ++ keysL r
end
mutual
/-- A tree without a node and all beneath it. -/
def cutV (k : St) : VT → VT
  | .node q tg tx a ks => .node q tg tx a (cutL k ks)
def cutL (k : St) : List VT → List VT
  | [] => []
  | t :: r => if t.k = k then cutL k r else cutV k t :: cutL k r
end
mutual
/-- A tree with one more beneath a node, right behind a kid (zero: ahead of all). -/
def insV (p a : St) (n : VT) : VT → VT
  | .node q tg tx at_ ks => .node q tg tx at_ ((if q = p ∧ a = (0, 0) then [n] else []) ++ insL p a n (decide (q = p ∧ a ≠ (0, 0))) ks)
def insL (p a : St) (n : VT) (h : Bool) : List VT → List VT
  | [] => []
  | t :: r => insV p a n t :: ((if h = true ∧ t.k = a then [n] else []) ++ insL p a n h r)
end
mutual
/-- A tree in which a node's own fields are others. -/
def withV (k : St) (F : Nf → Nf) : VT → VT
  | .node q tg tx a ks => if q = k then .node q (F ⟨q, tg, tx, a⟩).tg (F ⟨q, tg, tx, a⟩).tx (F ⟨q, tg, tx, a⟩).at_ (withL k F ks) else .node q tg tx a (withL k F ks)
def withL (k : St) (F : Nf → Nf) : List VT → List VT
  | [] => []
  | t :: r => withV k F t :: withL k F r
end
mutual
/-- The first node with a key. -/
def fndV (k : St) : VT → Option VT
  | .node q tg tx a ks => if q = k then some (.node q tg tx a ks) else fndL k ks
def fndL (k : St) : List VT → Option VT
  | [] => none
  | t :: r => (fndV k t).or (fndL k r)
end
theorem keysV_eq (t : VT) : keysV t = t.k :: keysL t.ks := by cases t; rfl
theorem cutV_eq (k : St) (t : VT) : cutV k t = .node t.k t.tg t.tx t.at_ (cutL k t.ks) := by cases t; rfl
theorem fndV_eq (k : St) (t : VT) : fndV k t = if t.k = k then some t else fndL k t.ks := by cases t; rfl
theorem cutV_k (k : St) (t : VT) : (cutV k t).k = t.k := by cases t; rfl
theorem insV_k (p a : St) (n t : VT) : (insV p a n t).k = t.k := by cases t; rfl
theorem withV_k (k : St) (F : Nf → Nf) (t : VT) : (withV k F t).k = t.k := by
  cases t
  unfold withV
  split <;> rfl
theorem keysL_mem {t : VT} : ∀ {l : List VT}, t ∈ l → ∀ k ∈ keysV t, k ∈ keysL l
  | x :: r, h, k, hk => by
    rw [keysL, List.mem_append]
    rcases List.mem_cons.1 h with rfl | h
    · exact .inl hk
    · exact .inr (keysL_mem h k hk)
theorem keysL_root {t : VT} {l : List VT} (h : t ∈ l) : t.k ∈ keysL l := keysL_mem h _ (by rw [keysV_eq]; exact List.mem_cons_self ..)
theorem keysL_append (l m : List VT) : keysL (l ++ m) = keysL l ++ keysL m := by
  induction l with
  | nil => rfl
  | cons x r ih => rw [List.cons_append, keysL, keysL, ih, List.append_assoc]
mutual
theorem keysV_len : ∀ t : VT, (keysV t).length = t.sz
  | .node _ _ _ _ ks => by rw [keysV, List.length_cons, keysL_len ks, VT.sz]; omega
theorem keysL_len : ∀ l : List VT, (keysL l).length = szs l
  | [] => rfl
  | t :: r => by rw [keysL, List.length_append, keysV_len t, keysL_len r, szs]
end
mutual
theorem fndV_none (k : St) : ∀ t : VT, fndV k t = none ↔ k ∉ keysV t
  | .node q _ _ _ ks => by
    rw [fndV, keysV, List.mem_cons]
    by_cases h : q = k
    · rw [if_pos h]; simp [h]
    · rw [if_neg h, fndL_none k ks]
      exact ⟨fun h1 h2 => h2.elim (fun e => h e.symm) h1, fun h1 h2 => h1 (.inr h2)⟩
theorem fndL_none (k : St) : ∀ l : List VT, fndL k l = none ↔ k ∉ keysL l
  | [] => by simp [fndL, keysL]
  | t :: r => by
    rw [fndL, keysL, List.mem_append, Option.or_eq_none_iff, fndV_none k t, fndL_none k r]
    exact ⟨fun h => fun h2 => h2.elim h.1 h.2, fun h => ⟨fun h2 => h (.inl h2), fun h2 => h (.inr h2)⟩⟩
end
mutual
theorem fndV_k (k : St) : ∀ t y : VT, fndV k t = some y → y.k = k
  | .node q tg tx a ks, y, h => by
    rw [fndV] at h
    by_cases hq : q = k
    · rw [if_pos hq] at h
      injection h with h
      subst h
      exact hq
    · rw [if_neg hq] at h
      exact fndL_k k ks y h
theorem fndL_k (k : St) : ∀ (l : List VT) (y : VT), fndL k l = some y → y.k = k
  | [], y, h => by cases h
  | t :: r, y, h => by
    rw [fndL, Option.or_eq_some_iff] at h
    rcases h with h | ⟨_, h⟩
    · exact fndV_k k t y h
    · exact fndL_k k r y h
end
mutual
theorem cutV_off (k : St) : ∀ t : VT, k ∉ keysL t.ks → cutV k t = t
  | .node q tg tx a ks, h => by rw [cutV, cutL_off k ks h]
theorem cutL_off (k : St) : ∀ l : List VT, k ∉ keysL l → cutL k l = l
  | [], _ => rfl
  | t :: r, h => by
    rw [keysL, List.mem_append] at h
    have h1 : k ∉ keysV t := fun e => h (.inl e)
    rw [keysV_eq, List.mem_cons] at h1
    rw [cutL, if_neg (fun e => h1 (.inl e.symm)), cutV_off k t (fun e => h1 (.inr e)), cutL_off k r (fun e => h (.inr e))]
end
mutual
theorem insV_off (p a : St) (n : VT) : ∀ t : VT, p ∉ keysV t → insV p a n t = t
  | .node q tg tx at_ ks, h => by
    rw [keysV, List.mem_cons] at h
    have hq : ¬ q = p := fun e => h (.inl e.symm)
    rw [insV, if_neg (fun e => hq e.1), show decide (q = p ∧ a ≠ (0, 0)) = false from decide_eq_false fun e => hq e.1, insL_off p a n ks (fun e => h (.inr e))]
    rfl
theorem insL_off (p a : St) (n : VT) : ∀ l : List VT, p ∉ keysL l → insL p a n false l = l
  | [], _ => rfl
  | t :: r, h => by
    rw [keysL, List.mem_append] at h
    rw [insL, insV_off p a n t (fun e => h (.inl e)), insL_off p a n r (fun e => h (.inr e))]
    simp
end
mutual
theorem withV_off (k : St) (F : Nf → Nf) : ∀ t : VT, k ∉ keysV t → withV k F t = t
  | .node q tg tx a ks, h => by
    rw [keysV, List.mem_cons] at h
    rw [withV, if_neg (fun e => h (.inl e.symm)), withL_off k F ks (fun e => h (.inr e))]
theorem withL_off (k : St) (F : Nf → Nf) : ∀ l : List VT, k ∉ keysL l → withL k F l = l
  | [], _ => rfl
  | t :: r, h => by
    rw [keysL, List.mem_append] at h
    rw [withL, withV_off k F t (fun e => h (.inl e)), withL_off k F r (fun e => h (.inr e))]
end
mutual
theorem withV_keys (k : St) (F : Nf → Nf) : ∀ t : VT, keysV (withV k F t) = keysV t
  | .node q tg tx a ks => by
    rw [withV]
    split
    · rw [keysV, keysV, withL_keys k F ks]
    · rw [keysV, keysV, withL_keys k F ks]
theorem withL_keys (k : St) (F : Nf → Nf) : ∀ l : List VT, keysL (withL k F l) = keysL l
  | [] => rfl
  | t :: r => by rw [withL, keysL, keysL, withV_keys k F t, withL_keys k F r]
end

mutual
/-- A tree lies at a block. -/
def Rt (g : Gr) : VT → Nat → Prop
  | .node k tg tx a ks, b => g.o b = ⟨k, tg, tx, a⟩ ∧ RtL g ks (g.C b)
def RtL (g : Gr) : List VT → List Nat → Prop
  | [], [] => True
  | t :: r, b :: l => Rt g t b ∧ RtL g r l
  | [], _ :: _ => False
  | _ :: _, [] => False
end
theorem Rt_iff {g : Gr} {t : VT} {b : Nat} : Rt g t b ↔ g.o b = ⟨t.k, t.tg, t.tx, t.at_⟩ ∧ RtL g t.ks (g.C b) := by cases t; rfl
theorem RtL.len {g : Gr} : ∀ {l : List VT} {bs : List Nat}, RtL g l bs → bs.length = l.length
  | [], [], _ => rfl
  | _ :: r, _ :: l, h => by rw [List.length_cons, List.length_cons, RtL.len h.2]
theorem RtL.at_ {g : Gr} : ∀ {l : List VT} {bs : List Nat}, RtL g l bs → ∀ i (h : i < l.length) (h2 : i < bs.length), Rt g l[i] bs[i]
  | _ :: r, _ :: l, h, 0, _, _ => h.1
  | _ :: r, _ :: l, h, i + 1, h1, h2 => RtL.at_ (l := r) (bs := l) h.2 i (by simpa using h1) (by simpa using h2)
theorem RtL.app {g : Gr} : ∀ {l : List VT} {bs : List Nat} {m : List VT} {cs : List Nat}, RtL g l bs → RtL g m cs → RtL g (l ++ m) (bs ++ cs)
  | [], [], _, _, _, h => h
  | _ :: r, _ :: l, _, _, h, h2 => ⟨h.1, RtL.app h.2 h2⟩
theorem RtL.one {g : Gr} {t : VT} {b : Nat} (h : Rt g t b) : RtL g [t] [b] := ⟨h, trivial⟩
section
variable {g g' : Gr} {Y : Nat → Prop}
mutual
theorem Rt.congr (hm : ∀ p c, Y p → c ∈ g.C p → Y c) (he : ∀ c, Y c → g'.o c = g.o c ∧ g'.C c = g.C c) : ∀ (t : VT) (b : Nat), Y b → Rt g t b → Rt g' t b
  | .node k tg tx a ks, b, hb, h => by
    refine ⟨(he b hb).1.trans h.1, ?_⟩
    rw [(he b hb).2]
    exact RtL.congr hm he ks (g.C b) (fun c hc => hm b c hb hc) h.2
theorem RtL.congr (hm : ∀ p c, Y p → c ∈ g.C p → Y c) (he : ∀ c, Y c → g'.o c = g.o c ∧ g'.C c = g.C c) : ∀ (l : List VT) (bs : List Nat), (∀ c ∈ bs, Y c) → RtL g l bs → RtL g' l bs
  | [], [], _, _ => trivial
  | t :: r, b :: l, hb, h => ⟨Rt.congr hm he t b (hb b (List.mem_cons_self ..)) h.1, RtL.congr hm he r l (fun c hc => hb c (List.mem_cons_of_mem _ hc)) h.2⟩
  | [], _ :: _, _, h => h.elim
  | _ :: _, [], _, h => h.elim
end
mutual
/-- Behind one that is taken out. -/
theorem Rt.unl {p n : Nat} {k : St} (hm : ∀ p c, Y p → c ∈ g.C p → Y c) (hk : ∀ c, Y c → ((g.o c).k = k ↔ c = n)) : ∀ (t : VT) (b : Nat), Y b → Rt g t b → Rt (unl g p n) (cutV k t) b
  | .node q tg tx a ks, b, hb, h => ⟨h.1, RtL.unl hm hk ks (g.C b) (fun c hc => hm b c hb hc) h.2⟩
theorem RtL.unl {p n : Nat} {k : St} (hm : ∀ p c, Y p → c ∈ g.C p → Y c) (hk : ∀ c, Y c → ((g.o c).k = k ↔ c = n)) : ∀ (l : List VT) (bs : List Nat), (∀ c ∈ bs, Y c) → RtL g l bs → RtL (unl g p n) (cutL k l) (bs.filter fun x => decide (x ≠ n))
  | [], [], _, _ => trivial
  | t :: r, b :: l, hb, h => by
    have h1 := h.1
    rw [Rt_iff] at h1
    have h2 := hk b (hb b (List.mem_cons_self ..))
    rw [h1.1] at h2
    have h3 := RtL.unl (p := p) hm hk r l (fun c hc => hb c (List.mem_cons_of_mem _ hc)) h.2
    rw [cutL]
    by_cases e : t.k = k
    · rw [if_pos e, List.filter_cons, h2.1 e]
      simpa using h3
    · rw [if_neg e, List.filter_cons, if_pos (by simpa using fun e2 => e (h2.2 e2))]
      exact ⟨Rt.unl hm hk t b (hb b (List.mem_cons_self ..)) h.1, h3⟩
  | [], _ :: _, _, h => h.elim
  | _ :: _, [], _, h => h.elim
end
mutual
theorem Rt.lnk_off {p n : Nat} {a : Option Nat} (hm : ∀ p c, Y p → c ∈ g.C p → Y c) : ∀ (t : VT) (b : Nat), Y b → (g.o p).k ∉ keysV t → Rt g t b → Rt (lnk g n p a) t b
  | .node q tg tx at_ ks, b, hb, hk, h => by
    rw [keysV, List.mem_cons] at hk
    have hbp : b ≠ p := fun e => hk (.inl (by rw [← e, h.1]))
    refine ⟨h.1, ?_⟩
    show RtL _ ks (updF g.C p (insA a n (g.C p)) b)
    rw [updF_ne _ _ hbp]
    exact RtL.lnk_off hm ks (g.C b) (fun c hc => hm b c hb hc) (fun e => hk (.inr e)) h.2
theorem RtL.lnk_off {p n : Nat} {a : Option Nat} (hm : ∀ p c, Y p → c ∈ g.C p → Y c) : ∀ (l : List VT) (bs : List Nat), (∀ c ∈ bs, Y c) → (g.o p).k ∉ keysL l → RtL g l bs → RtL (lnk g n p a) l bs
  | [], [], _, _, _ => trivial
  | t :: r, b :: l, hb, hk, h => by
    rw [keysL, List.mem_append] at hk
    exact ⟨Rt.lnk_off hm t b (hb b (List.mem_cons_self ..)) (fun e => hk (.inl e)) h.1, RtL.lnk_off hm r l (fun c hc => hb c (List.mem_cons_of_mem _ hc)) (fun e => hk (.inr e)) h.2⟩
  | [], _ :: _, _, _, h => h.elim
  | _ :: _, [], _, _, h => h.elim
end
/-- A key's block, or none for zero. -/
def KeyA (g : Gr) (Y : Nat → Prop) (a : Option Nat) (ak : St) : Prop := match a with | none => ak = (0, 0) | some x => ak ≠ (0, 0) ∧ ∀ c, Y c → ((g.o c).k = ak ↔ c = x)
mutual
/-- Behind one that is put in. -/
theorem Rt.lnk {p n : Nat} {a : Option Nat} {pk ak : St} {nt : VT} (hm : ∀ p c, Y p → c ∈ g.C p → Y c) (hk : ∀ c, Y c → ((g.o c).k = pk ↔ c = p)) (ha : KeyA g Y a ak) (hn : Rt (lnk g n p a) nt n) : ∀ (t : VT) (b : Nat), Y b → Rt g t b → Rt (lnk g n p a) (insV pk ak nt t) b
  | .node q tg tx at_ ks, b, hb, h => by
    have h2 := hk b hb
    rw [h.1] at h2
    replace h2 : q = pk ↔ b = p := h2
    refine ⟨h.1, ?_⟩
    show RtL _ _ (updF g.C p (insA a n (g.C p)) b)
    by_cases e : b = p
    · rw [e, updF_same]
      cases a with
      | none =>
        have e0 : ak = (0, 0) := ha
        rw [if_pos ⟨h2.2 e, e0⟩, show decide (q = pk ∧ ak ≠ (0, 0)) = false from decide_eq_false fun e => e.2 e0]
        refine ⟨hn, ?_⟩
        have := RtL.lnk (ak := ak) hm hk ha hn false (fun e => by cases e) ks (g.C b) (fun c hc => hm b c hb hc) h.2
        rw [e] at this
        exact this
      | some x =>
        have e0 : ak ≠ (0, 0) := ha.1
        rw [if_neg (fun e => e0 e.2), show decide (q = pk ∧ ak ≠ (0, 0)) = true from decide_eq_true ⟨h2.2 e, e0⟩]
        have := RtL.lnk (ak := ak) hm hk ha hn true (fun _ => by simp) ks (g.C b) (fun c hc => hm b c hb hc) h.2
        rw [e] at this
        exact this
    · rw [updF_ne _ _ e, if_neg (fun e2 => e (h2.1 e2.1)), show decide (q = pk ∧ ak ≠ (0, 0)) = false from decide_eq_false fun e2 => e (h2.1 e2.1)]
      exact RtL.lnk (ak := ak) hm hk ha hn false (fun e => by cases e) ks (g.C b) (fun c hc => hm b c hb hc) h.2
theorem RtL.lnk {p n : Nat} {a : Option Nat} {pk ak : St} {nt : VT} (hm : ∀ p c, Y p → c ∈ g.C p → Y c) (hk : ∀ c, Y c → ((g.o c).k = pk ↔ c = p)) (ha : KeyA g Y a ak) (hn : Rt (lnk g n p a) nt n) (f : Bool) (hfa : f = true → a ≠ none) : ∀ (l : List VT) (bs : List Nat), (∀ c ∈ bs, Y c) → RtL g l bs → RtL (lnk g n p a) (insL pk ak nt f l) (if f = true ∧ a ≠ none then insA a n bs else bs)
  | [], [], _, _ => by cases a <;> cases f <;> exact trivial
  | t :: r, b :: l, hb, h => by
    have h1 := Rt.lnk (ak := ak) hm hk ha hn t b (hb b (List.mem_cons_self ..)) h.1
    have h3 := RtL.lnk (ak := ak) hm hk ha hn f hfa r l (fun c hc => hb c (List.mem_cons_of_mem _ hc)) h.2
    have h4 := h.1
    rw [Rt_iff] at h4
    rw [insL]
    cases f with
    | false => simpa [RtL] using ⟨h1, by simpa using h3⟩
    | true =>
      cases a with
      | none => exact absurd rfl (hfa rfl)
      | some x =>
        have h2 := ha.2 b (hb b (List.mem_cons_self ..))
        rw [h4.1] at h2
        replace h2 : t.k = ak ↔ b = x := h2
        have ht : (true = true ∧ some x ≠ none) := ⟨rfl, by simp⟩
        rw [if_pos ht] at h3 ⊢
        unfold insA
        dsimp only
        rw [List.flatMap_cons]
        by_cases e : t.k = ak
        · rw [if_pos ⟨rfl, e⟩, if_pos (h2.1 e)]
          exact ⟨h1, hn, h3⟩
        · rw [if_neg (fun e2 => e e2.2), if_neg (fun e2 => e (h2.2 e2))]
          exact ⟨h1, h3⟩
  | [], _ :: _, _, h => h.elim
  | _ :: _, [], _, h => h.elim
end
mutual
/-- Behind a change of fields. -/
theorem Rt.with_ {n : Nat} {k : St} {F : Nf → Nf} {av : Nat → Value} (hF : ∀ x, (F x).k = x.k) (hm : ∀ p c, Y p → c ∈ g.C p → Y c) (hk : ∀ c, Y c → ((g.o c).k = k ↔ c = n)) : ∀ (t : VT) (b : Nat), Y b → Rt g t b → Rt { g with o := updF g.o n (F (g.o n)), av := av } (withV k F t) b
  | .node q tg tx a ks, b, hb, h => by
    have h2 := hk b hb
    rw [h.1] at h2
    replace h2 : q = k ↔ b = n := h2
    have h3 := RtL.with_ (av := av) hF hm hk ks (g.C b) (fun c hc => hm b c hb hc) h.2
    rw [withV]
    by_cases e : q = k
    · rw [if_pos e]
      have e2 := h2.1 e
      subst e2
      refine ⟨?_, h3⟩
      show updF g.o b (F (g.o b)) b = _
      rw [updF_same, h.1]
      have := hF ⟨q, tg, tx, a⟩
      generalize F ⟨q, tg, tx, a⟩ = z at this
      cases z
      subst this
      rfl
    · rw [if_neg e]
      refine ⟨?_, h3⟩
      show updF g.o n (F (g.o n)) b = _
      rw [updF_ne _ _ fun e2 => e (h2.2 e2)]
      exact h.1
theorem RtL.with_ {n : Nat} {k : St} {F : Nf → Nf} {av : Nat → Value} (hF : ∀ x, (F x).k = x.k) (hm : ∀ p c, Y p → c ∈ g.C p → Y c) (hk : ∀ c, Y c → ((g.o c).k = k ↔ c = n)) : ∀ (l : List VT) (bs : List Nat), (∀ c ∈ bs, Y c) → RtL g l bs → RtL { g with o := updF g.o n (F (g.o n)), av := av } (withL k F l) bs
  | [], [], _, _ => trivial
  | t :: r, b :: l, hb, h => ⟨Rt.with_ hF hm hk t b (hb b (List.mem_cons_self ..)) h.1, RtL.with_ hF hm hk r l (fun c hc => hb c (List.mem_cons_of_mem _ hc)) h.2⟩
  | [], _ :: _, _, h => h.elim
  | _ :: _, [], _, h => h.elim
end
end

/-- So many steps up. -/
def UpN (g : Gr) : Nat → Nat → Nat → Prop
  | 0, c, b => c = b
  | n + 1, c, b => ∃ p, g.up c = some p ∧ UpN g n p b
theorem UpN.snoc {g : Gr} {b q : Nat} (hq : g.up b = some q) : ∀ {n c : Nat}, UpN g n c b → UpN g (n + 1) c q
  | 0, c, h => ⟨q, by rw [h]; exact hq, rfl⟩
  | n + 1, c, ⟨p, h1, h2⟩ => ⟨p, h1, UpN.snoc hq h2⟩
section
variable {g : Gr} {Y : Nat → Prop}
mutual
/-- A node of a tree: its block, and the way up from it. -/
theorem Rt.find (hm : ∀ p c, Y p → c ∈ g.C p → Y c) (hu : ∀ p c, Y p → c ∈ g.C p → g.up c = some p) (k : St) : ∀ (t : VT) (b : Nat) (y : VT), Y b → Rt g t b → fndV k t = some y → ∃ c m, Y c ∧ Rt g y c ∧ UpN g m c b
  | .node q tg tx a ks, b, y, hb, h, hf => by
    rw [fndV] at hf
    by_cases e : q = k
    · rw [if_pos e] at hf
      injection hf with hf
      subst hf
      exact ⟨b, 0, hb, h, rfl⟩
    · rw [if_neg e] at hf
      obtain ⟨c, m, r, h1, h2, h3, h4⟩ := RtL.find hm hu k ks (g.C b) y (fun c hc => hm b c hb hc) h.2 hf
      exact ⟨c, m + 1, h1, h2, h4.snoc (hu b r hb h3)⟩
theorem RtL.find (hm : ∀ p c, Y p → c ∈ g.C p → Y c) (hu : ∀ p c, Y p → c ∈ g.C p → g.up c = some p) (k : St) : ∀ (l : List VT) (bs : List Nat) (y : VT), (∀ c ∈ bs, Y c) → RtL g l bs → fndL k l = some y → ∃ c m r, Y c ∧ Rt g y c ∧ r ∈ bs ∧ UpN g m c r
  | [], [], y, _, _, hf => by cases hf
  | t :: r, b :: l, y, hb, h, hf => by
    rw [fndL, Option.or_eq_some_iff] at hf
    rcases hf with hf | ⟨_, hf⟩
    · obtain ⟨c, m, h1, h2, h3⟩ := Rt.find hm hu k t b y (hb b (List.mem_cons_self ..)) h.1 hf
      exact ⟨c, m, b, h1, h2, List.mem_cons_self .., h3⟩
    · obtain ⟨c, m, q, h1, h2, h3, h4⟩ := RtL.find hm hu k r l y (fun c hc => hb c (List.mem_cons_of_mem _ hc)) h.2 hf
      exact ⟨c, m, q, h1, h2, List.mem_cons_of_mem _ h3, h4⟩
  | [], _ :: _, _, _, h, _ => h.elim
  | _ :: _, [], _, _, h, _ => h.elim
end
end
end Go.Proofs.Ytccpljllgpabnab
