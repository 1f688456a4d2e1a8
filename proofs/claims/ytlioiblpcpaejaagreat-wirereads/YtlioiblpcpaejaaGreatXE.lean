/- A change's bytes and a frame's load as plain lists of bytes: each is one right change's, one right frame's alone. -/
import Derived.Test.YtlioiblpcpaejaaGreatXB
import Derived.Test.YtlioiblpcpaejaaGreatXC
import Derived.Test.YtlioiblpcpaejaaGreatXD
namespace Go.Proofs.YtlioiblpcpaejaaGreat
set_option linter.unusedVariables false

/-- A number that may be laid. -/
def Lays (x : Int) : Prop := 0 ≤ x ∧ x < 9223372036854775808
def putI (x : Int) : List UInt8 := putL x.toNat
def stampP (c r : Int) : List UInt8 := putI c ++ putI r
def numsP (l : List Int) : List UInt8 := (l.map putI).flatten
def listP (l : List Int) : List UInt8 := putL l.length ++ numsP l
def textP (t : List UInt8) : List UInt8 := putL t.length ++ t
theorem numsP_nil : numsP [] = [] := rfl
theorem numsP_cons (x : Int) (l : List Int) : numsP (x :: l) = putI x ++ numsP l := by simp [numsP]
theorem numsP_snoc (l : List Int) (x : Int) : numsP (l ++ [x]) = numsP l ++ putI x := by simp [numsP]
theorem putL_head {a b : Nat} {x y : List UInt8} (ha : a < 9223372036854775808) (hb : b < 9223372036854775808) (h : putL a ++ x = putL b ++ y) : a = b ∧ x = y := by
  have h1 := numL_put ha x
  rw [h, numL_put hb y] at h1
  simp only [Option.some.injEq, Prod.mk.injEq] at h1
  obtain ⟨rfl, _⟩ := h1
  exact ⟨rfl, List.append_cancel_left h⟩
theorem putI_head {a b : Int} {x y : List UInt8} (ha : Lays a) (hb : Lays b) (h : putI a ++ x = putI b ++ y) : a = b ∧ x = y := by
  obtain ⟨a0, a1⟩ := ha
  obtain ⟨b0, b1⟩ := hb
  obtain ⟨e, e2⟩ := putL_head (by omega) (by omega) h
  exact ⟨by omega, e2⟩
theorem stampP_head {c r c2 r2 : Int} {x y : List UInt8} (h1 : Lays c) (h2 : Lays r) (h3 : Lays c2) (h4 : Lays r2) (h : stampP c r ++ x = stampP c2 r2 ++ y) : (c = c2 ∧ r = r2) ∧ x = y := by
  unfold stampP at h
  rw [List.append_assoc, List.append_assoc] at h
  obtain ⟨e, h⟩ := putI_head h1 h3 h
  obtain ⟨e2, h⟩ := putI_head h2 h4 h
  exact ⟨⟨e, e2⟩, h⟩
theorem numsP_head : ∀ (l m : List Int) (x y : List UInt8), l.length = m.length → (∀ a ∈ l, Lays a) → (∀ a ∈ m, Lays a) → numsP l ++ x = numsP m ++ y → l = m ∧ x = y := by
  intro l
  induction l with
  | nil =>
    intro m x y hl _ _ h
    cases m with
    | nil => exact ⟨rfl, by simpa [numsP] using h⟩
    | cons b m => simp at hl
  | cons a l ih =>
    intro m x y hl ha hb h
    cases m with
    | nil => simp at hl
    | cons b m =>
      rw [numsP_cons, numsP_cons, List.append_assoc, List.append_assoc] at h
      obtain ⟨e, h2⟩ := putI_head (ha a (by simp)) (hb b (by simp)) h
      obtain ⟨e2, h3⟩ := ih m x y (by simpa using hl) (fun z hz => ha z (by simp [hz])) (fun z hz => hb z (by simp [hz])) h2
      exact ⟨by rw [e, e2], h3⟩
theorem listP_head {l m : List Int} {x y : List UInt8} (hl : l.length ≤ 64) (hm : m.length ≤ 64) (ha : ∀ a ∈ l, Lays a) (hb : ∀ a ∈ m, Lays a) (h : listP l ++ x = listP m ++ y) : l = m ∧ x = y := by
  unfold listP at h
  rw [List.append_assoc, List.append_assoc] at h
  obtain ⟨e, h⟩ := putL_head (by omega) (by omega) h
  exact numsP_head l m x y e ha hb h
theorem textP_head {t u x y : List UInt8} (ht : t.length < 9223372036854775808) (hu : u.length < 9223372036854775808) (h : textP t ++ x = textP u ++ y) : t = u ∧ x = y := by
  unfold textP at h
  rw [List.append_assoc, List.append_assoc] at h
  obtain ⟨e, h⟩ := putL_head ht hu h
  exact List.append_inj h e

/-- A change's bytes. -/
def restP (c : Ch) : List UInt8 :=
  if c.kind = 1 then stampP c.pc c.pr ++ (stampP c.fc c.fr ++ textP c.name.data.toList)
  else if c.kind = 2 then stampP c.nc c.nr ++ (stampP c.pc c.pr ++ stampP c.fc c.fr)
  else if c.kind = 3 then stampP c.nc c.nr ++ (textP c.name.data.toList ++ textP c.value.data.toList)
  else if c.kind = 4 then stampP c.nc c.nr ++ textP c.name.data.toList
  else stampP c.nc c.nr ++ textP c.value.data.toList
def bytesCh (c : Ch) : List UInt8 := putI c.kind ++ (stampP c.ac c.ar ++ (putI c.seq ++ (listP c.deps ++ restP c)))

theorem node_lays {c r : Int} (h : nodeB c r = true) : Lays c ∧ Lays r := by
  simp only [nodeB, decide_eq_true_eq] at h
  unfold Lays
  omega
theorem clock_lays {d : List Int} (h : checkL d = 0) : d.length ≤ 64 ∧ ∀ a ∈ d, Lays a := by
  have := (checkL_ok d).1 h
  exact ⟨this.1, fun a ha => by have := this.2 a ha; unfold Lays; omega⟩
theorem name_len {c : Ch} (h : checkCh c = 0) : c.name.data.toList.length ≤ 32 := by
  obtain ⟨_, _, _, _, _, _, hn, _⟩ := checkCh_ok c h
  unfold nameR at hn
  split at hn
  · unfold nameL at hn
    rw [Bool.and_eq_true, decide_eq_true_eq] at hn
    exact hn.1.2
  · rw [decide_eq_true_eq] at hn
    rw [size_list, hn]
    omega
theorem value_len {c : Ch} (h : checkCh c = 0) : c.value.data.toList.length ≤ 256 := by
  obtain ⟨_, _, _, _, _, _, _, hv⟩ := checkCh_ok c h
  unfold valueE at hv
  split at hv
  · cases hv
  · rw [size_list]; omega

theorem bytesCh_inj {c d : Ch} (hc : checkCh c = 0) (hd : checkCh d = 0) (h : bytesCh c = bytesCh d) : c = d := by
  have f := fine c hc
  have g := fine d hd
  have n1 := name_len hc
  have n2 := name_len hd
  have v1 := value_len hc
  have v2 := value_len hd
  unfold bytesCh at h
  have fk := f.kind
  have gk := g.kind
  obtain ⟨ek, h⟩ := putI_head (by unfold Lays; omega) (by unfold Lays; omega) h
  obtain ⟨ea, h⟩ := stampP_head (node_lays f.at_).1 (node_lays f.at_).2 (node_lays g.at_).1 (node_lays g.at_).2 h
  have fs0 := f.seq0
  have fs1 := f.seq1
  have gs0 := g.seq0
  have gs1 := g.seq1
  obtain ⟨es, h⟩ := putI_head (by unfold Lays; omega) (by unfold Lays; omega) h
  obtain ⟨ed, h⟩ := listP_head (clock_lays f.deps).1 (clock_lays g.deps).1 (clock_lays f.deps).2 (clock_lays g.deps).2 h
  have hN : ∀ {x y : List UInt8}, stampP c.nc c.nr ++ x = stampP d.nc d.nr ++ y → (c.nc = d.nc ∧ c.nr = d.nr) ∧ x = y := stampP_head (node_lays f.node).1 (node_lays f.node).2 (node_lays g.node).1 (node_lays g.node).2
  have hP : ∀ {x y : List UInt8}, stampP c.pc c.pr ++ x = stampP d.pc d.pr ++ y → (c.pc = d.pc ∧ c.pr = d.pr) ∧ x = y := stampP_head (node_lays f.parent).1 (node_lays f.parent).2 (node_lays g.parent).1 (node_lays g.parent).2
  have hF : ∀ {x y : List UInt8}, stampP c.fc c.fr ++ x = stampP d.fc d.fr ++ y → (c.fc = d.fc ∧ c.fr = d.fr) ∧ x = y := stampP_head (node_lays f.after).1 (node_lays f.after).2 (node_lays g.after).1 (node_lays g.after).2
  have hT : ∀ {x y : List UInt8}, textP c.name.data.toList ++ x = textP d.name.data.toList ++ y → c.name.data.toList = d.name.data.toList ∧ x = y := textP_head (by omega) (by omega)
  have hV : ∀ {x y : List UInt8}, textP c.value.data.toList ++ x = textP d.value.data.toList ++ y → c.value.data.toList = d.value.data.toList ∧ x = y := textP_head (by omega) (by omega)
  have nil : ∀ {a b : List UInt8}, a = b → a ++ ([] : List UInt8) = b ++ [] := fun e => by rw [e]
  unfold restP at h
  rcases fk with k | k | k | k | k
  · rw [← ek, if_pos k, if_pos k] at h
    obtain ⟨ep, h⟩ := hP h
    obtain ⟨ef, h⟩ := hF h
    obtain ⟨en, _⟩ := hT (nil h)
    exact ch_ext ea es ed ek ⟨by rw [(f.made k).1, (g.made (ek ▸ k)).1, ea.1], by rw [(f.made k).2, (g.made (ek ▸ k)).2, ea.2]⟩ ep ef (bytes_ext en) (by rw [f.novalue (by rw [k]; decide), g.novalue (by rw [← ek, k]; decide)])
  · rw [← ek, if_neg (by rw [k]; decide), if_pos k, if_neg (by rw [k]; decide), if_pos k] at h
    obtain ⟨en, h⟩ := hN h
    obtain ⟨ep, h⟩ := hP h
    obtain ⟨ef, _⟩ := hF (nil h)
    exact ch_ext ea es ed ek en ep ef (by rw [f.noname (by rw [k]; decide), g.noname (by rw [← ek, k]; decide)]) (by rw [f.novalue (by rw [k]; decide), g.novalue (by rw [← ek, k]; decide)])
  · have p1 := f.noplace (by rw [k]; decide)
    have p2 := g.noplace (by rw [← ek, k]; decide)
    rw [← ek, if_neg (by rw [k]; decide), if_neg (by rw [k]; decide), if_pos k, if_neg (by rw [k]; decide), if_neg (by rw [k]; decide), if_pos k] at h
    obtain ⟨en, h⟩ := hN h
    obtain ⟨et, h⟩ := hT h
    obtain ⟨ev, _⟩ := hV (nil h)
    exact ch_ext ea es ed ek en ⟨by rw [p1.1, p2.1], by rw [p1.2.1, p2.2.1]⟩ ⟨by rw [p1.2.2.1, p2.2.2.1], by rw [p1.2.2.2, p2.2.2.2]⟩ (bytes_ext et) (bytes_ext ev)
  · have p1 := f.noplace (by rw [k]; decide)
    have p2 := g.noplace (by rw [← ek, k]; decide)
    rw [← ek, if_neg (by rw [k]; decide), if_neg (by rw [k]; decide), if_neg (by rw [k]; decide), if_pos k, if_neg (by rw [k]; decide), if_neg (by rw [k]; decide), if_neg (by rw [k]; decide), if_pos k] at h
    obtain ⟨en, h⟩ := hN h
    obtain ⟨et, _⟩ := hT (nil h)
    exact ch_ext ea es ed ek en ⟨by rw [p1.1, p2.1], by rw [p1.2.1, p2.2.1]⟩ ⟨by rw [p1.2.2.1, p2.2.2.1], by rw [p1.2.2.2, p2.2.2.2]⟩ (bytes_ext et) (by rw [f.novalue (by rw [k]; decide), g.novalue (by rw [← ek, k]; decide)])
  · have p1 := f.noplace (by rw [k]; decide)
    have p2 := g.noplace (by rw [← ek, k]; decide)
    rw [← ek, if_neg (by rw [k]; decide), if_neg (by rw [k]; decide), if_neg (by rw [k]; decide), if_neg (by rw [k]; decide), if_neg (by rw [k]; decide), if_neg (by rw [k]; decide), if_neg (by rw [k]; decide), if_neg (by rw [k]; decide)] at h
    obtain ⟨en, h⟩ := hN h
    obtain ⟨ev, _⟩ := hV (nil h)
    exact ch_ext ea es ed ek en ⟨by rw [p1.1, p2.1], by rw [p1.2.1, p2.2.1]⟩ ⟨by rw [p1.2.2.1, p2.2.2.1], by rw [p1.2.2.2, p2.2.2.2]⟩ (by rw [f.noname (by rw [k]; decide), g.noname (by rw [← ek, k]; decide)]) (bytes_ext ev)

theorem putI_len {x : Int} (h : x < 9223372036854775808) : (putI x).length ≤ 9 := putL_len9 (by omega)
theorem numsP_len (l : List Int) (h : ∀ a ∈ l, Lays a) : (numsP l).length ≤ 9 * l.length := by
  induction l with
  | nil => simp [numsP]
  | cons a l ih =>
    rw [numsP_cons, List.length_append, List.length_cons]
    have h1 := putI_len (h a (by simp)).2
    have h2 := ih (fun z hz => h z (by simp [hz]))
    omega
theorem stampP_len {c r : Int} (h : Lays c ∧ Lays r) : (stampP c r).length ≤ 18 := by
  unfold stampP
  rw [List.length_append]
  have h1 := putI_len h.1.2
  have h2 := putI_len h.2.2
  omega
theorem listP_len {l : List Int} (hl : l.length ≤ 64) (h : ∀ a ∈ l, Lays a) : (listP l).length ≤ 585 := by
  unfold listP
  rw [List.length_append]
  have h1 := numsP_len l h
  have h2 := putL_len9 (n := l.length) (by omega)
  omega
theorem textP_len {t : List UInt8} (h : t.length < 9223372036854775808) : (textP t).length ≤ t.length + 9 := by
  unfold textP
  rw [List.length_append]
  have h2 := putL_len9 h
  omega
/-- A right change's bytes are few. -/
theorem bytesCh_len {c : Ch} (h : checkCh c = 0) : (bytesCh c).length ≤ 1000 := by
  have f := fine c h
  have n1 := name_len h
  have v1 := value_len h
  have fk := f.kind
  have k1 : (putI c.kind).length ≤ 9 := putI_len (by omega)
  have k2 := stampP_len (node_lays f.at_)
  have k3 : (putI c.seq).length ≤ 9 := putI_len (by have := f.seq1; omega)
  have k4 := listP_len (clock_lays f.deps).1 (clock_lays f.deps).2
  have k5 := stampP_len (node_lays f.node)
  have k6 := stampP_len (node_lays f.parent)
  have k7 := stampP_len (node_lays f.after)
  have k8 := textP_len (t := c.name.data.toList) (by omega)
  have k9 := textP_len (t := c.value.data.toList) (by omega)
  have kr : (restP c).length ≤ 330 := by
    unfold restP
    repeat' split
    all_goals simp only [List.length_append]; omega
  unfold bytesCh
  simp only [List.length_append]
  omega

/-- A frame. -/
structure Fr where
  kind : Int
  from_ : Int
  clock : List Int
  more : Bool
  changes : List Ch
def Fr.none : Fr := ⟨0, 0, [], false, []⟩
def firstE : List Ch → Int
  | [] => 0
  | c :: l => if checkCh c = 0 then firstE l else checkCh c
/-- What Check tells of a frame. -/
def checkFr (f : Fr) : Int :=
  if 1 ≤ f.kind ∧ f.kind ≤ 3 ∧ 0 ≤ f.from_ ∧ f.from_ < 64 then
    if checkL f.clock = 0 then
      if (trimL f.clock).length = f.clock.length then
        if f.changes.length ≤ 64 then
          if (f.kind = 1 ∧ (0 < f.clock.length ∨ f.more = true ∨ f.changes.length = 0)) ∨ (f.kind = 2 ∧ (f.more = true ∨ 0 < f.changes.length)) then 2
          else firstE f.changes
        else 3
      else 2
    else checkL f.clock
  else 1
theorem firstE_ok {l : List Ch} (h : firstE l = 0) : ∀ c ∈ l, checkCh c = 0 := by
  induction l with
  | nil => intro c hc; simp at hc
  | cons d l ih =>
    unfold firstE at h
    split at h
    · rename_i hd
      intro c hc
      rcases List.mem_cons.1 hc with rfl | hc
      · exact hd
      · exact ih h c hc
    · rename_i hd; exact absurd h hd
theorem checkFr_ok {f : Fr} (h : checkFr f = 0) : (1 ≤ f.kind ∧ f.kind ≤ 3 ∧ 0 ≤ f.from_ ∧ f.from_ < 64) ∧ checkL f.clock = 0 ∧ (trimL f.clock).length = f.clock.length ∧ f.changes.length ≤ 64 ∧ ¬ ((f.kind = 1 ∧ (0 < f.clock.length ∨ f.more = true ∨ f.changes.length = 0)) ∨ (f.kind = 2 ∧ (f.more = true ∨ 0 < f.changes.length))) ∧ ∀ c ∈ f.changes, checkCh c = 0 := by
  unfold checkFr at h
  split at h
  · split at h
    · split at h
      · split at h
        · split at h
          · cases h
          · rename_i a b c d e; exact ⟨a, b, c, d, e, firstE_ok h⟩
        · cases h
      · cases h
    · rename_i g; exact absurd h g
  · cases h
def chsP (l : List Ch) : List UInt8 := (l.map fun c => textP (bytesCh c)).flatten
theorem chsP_cons (c : Ch) (l : List Ch) : chsP (c :: l) = textP (bytesCh c) ++ chsP l := by simp [chsP]
theorem chsP_snoc (l : List Ch) (c : Ch) : chsP (l ++ [c]) = chsP l ++ textP (bytesCh c) := by simp [chsP]
/-- A frame's load. -/
def loadFr (f : Fr) : List UInt8 := putI f.from_ ++ (listP f.clock ++ (putL (if f.more = true then 1 else 0) ++ (putL f.changes.length ++ chsP f.changes)))
theorem chsP_head : ∀ (l m : List Ch), l.length = m.length → (∀ a ∈ l, checkCh a = 0) → (∀ a ∈ m, checkCh a = 0) → chsP l = chsP m → l = m := by
  intro l
  induction l with
  | nil =>
    intro m hl _ _ h
    cases m with
    | nil => rfl
    | cons b m => simp at hl
  | cons a l ih =>
    intro m hl ha hb h
    cases m with
    | nil => simp at hl
    | cons b m =>
      rw [chsP_cons, chsP_cons] at h
      have h1 := bytesCh_len (ha a (by simp))
      have h2 := bytesCh_len (hb b (by simp))
      obtain ⟨e, h3⟩ := textP_head (by omega) (by omega) h
      have e1 := bytesCh_inj (ha a (by simp)) (hb b (by simp)) e
      have e2 := ih m (by simpa using hl) (fun z hz => ha z (by simp [hz])) (fun z hz => hb z (by simp [hz])) h3
      rw [e1, e2]
/-- A right frame's load is that frame's alone, among those of its kind. -/
theorem loadFr_inj {f g : Fr} (hf : checkFr f = 0) (hg : checkFr g = 0) (hk : f.kind = g.kind) (h : loadFr f = loadFr g) : f = g := by
  obtain ⟨⟨_, _, f1, f2⟩, f3, _, f4, _, f5⟩ := checkFr_ok hf
  obtain ⟨⟨_, _, g1, g2⟩, g3, _, g4, _, g5⟩ := checkFr_ok hg
  unfold loadFr at h
  obtain ⟨e1, h⟩ := putI_head (by unfold Lays; omega) (by unfold Lays; omega) h
  obtain ⟨e2, h⟩ := listP_head (clock_lays f3).1 (clock_lays g3).1 (clock_lays f3).2 (clock_lays g3).2 h
  obtain ⟨e3, h⟩ := putL_head (by split <;> omega) (by split <;> omega) h
  obtain ⟨e4, h⟩ := putL_head (by omega) (by omega) h
  have e5 := chsP_head _ _ e4 f5 g5 h
  have e6 : f.more = g.more := by
    cases hm : f.more <;> cases hn : g.more <;> simp_all
  cases f
  cases g
  simp_all
theorem chsP_len (l : List Ch) (h : ∀ c ∈ l, checkCh c = 0) : (chsP l).length ≤ 1009 * l.length := by
  induction l with
  | nil => simp [chsP]
  | cons a l ih =>
    rw [chsP_cons, List.length_append, List.length_cons]
    have h1 := bytesCh_len (h a (by simp))
    have h2 := textP_len (t := bytesCh a) (by omega)
    have h3 := ih (fun z hz => h z (by simp [hz]))
    omega
/-- A right frame's load is never too long for a seal. -/
theorem loadFr_len {f : Fr} (hf : checkFr f = 0) : (loadFr f).length ≤ 65188 := by
  obtain ⟨⟨_, _, f1, f2⟩, f3, _, f4, _, f5⟩ := checkFr_ok hf
  unfold loadFr
  simp only [List.length_append]
  have k1 : (putI f.from_).length ≤ 9 := putI_len (by omega)
  have k2 := listP_len (clock_lays f3).1 (clock_lays f3).2
  have k3 : (putL (if f.more = true then 1 else 0)).length ≤ 9 := putL_len9 (by split <;> omega)
  have k4 : (putL f.changes.length).length ≤ 9 := putL_len9 (by omega)
  have k5 := chsP_len f.changes f5
  omega

end Go.Proofs.YtlioiblpcpaejaaGreat

namespace Go.Proofs.YtlioiblpcpaejaaGreat
set_option linter.unusedVariables false

abbrev Rdr (α : Type) := List UInt8 → Nat → Int → α × Nat × Int
structure Strict {α : Type} (f : Rdr α) (enc : α → List UInt8) (ok : α → Prop) : Prop where
  stuck : ∀ p k y, y ≠ 0 → (f p k y).2.2 ≠ 0
  sound : ∀ p k, (f p k 0).2.2 = 0 → p.drop k = enc (f p k 0).1 ++ p.drop (f p k 0).2.1 ∧ ok (f p k 0).1
  full : ∀ p k a r, ok a → p.drop k = enc a ++ r → f p k 0 = (a, k + (enc a).length, 0)
theorem drop_past {p : List UInt8} {k : Nat} {a r : List UInt8} (h : p.drop k = a ++ r) : p.drop (k + a.length) = r := by
  rw [← List.drop_drop, h, List.drop_left]
theorem Strict.zero {α : Type} {f : Rdr α} {enc : α → List UInt8} {ok : α → Prop} (h : Strict f enc ok) {p : List UInt8} {k : Nat} {y : Int} (h2 : (f p k y).2.2 = 0) : y = 0 := by
  by_cases hy : y = 0
  · exact hy
  · exact absurd h2 (h.stuck p k y hy)
def seqR {α β : Type} (f : Rdr α) (g : α → Rdr β) : Rdr (α × β) := fun p k y => (((f p k y).1, (g (f p k y).1 p (f p k y).2.1 (f p k y).2.2).1), (g (f p k y).1 p (f p k y).2.1 (f p k y).2.2).2)
theorem Strict.seq {α β : Type} {f : Rdr α} {g : α → Rdr β} {e1 : α → List UInt8} {e2 : α → β → List UInt8} {o1 : α → Prop} {o2 : α → β → Prop} (h1 : Strict f e1 o1) (h2 : ∀ a, Strict (g a) (e2 a) (o2 a)) :
    Strict (seqR f g) (fun x => e1 x.1 ++ e2 x.1 x.2) (fun x => o1 x.1 ∧ o2 x.1 x.2) where
  stuck := fun p k y hy => (h2 _).stuck _ _ _ (h1.stuck p k y hy)
  sound := fun p k h => by
    have y1 : (f p k 0).2.2 = 0 := (h2 _).zero (y := (f p k 0).2.2) h
    have s1 := h1.sound p k y1
    have h' : (g (f p k 0).1 p (f p k 0).2.1 (f p k 0).2.2).2.2 = 0 := h
    rw [y1] at h'
    have s2 := (h2 (f p k 0).1).sound p (f p k 0).2.1 h'
    have e : seqR f g p k 0 = (((f p k 0).1, (g (f p k 0).1 p (f p k 0).2.1 0).1), (g (f p k 0).1 p (f p k 0).2.1 0).2) := by
      unfold seqR; rw [y1]
    rw [e]
    exact ⟨by rw [s1.1, s2.1]; simp, s1.2, s2.2⟩
  full := fun p k a r ha h => by
    obtain ⟨a, b⟩ := a
    have h' : p.drop k = e1 a ++ (e2 a b ++ r) := by rw [h]; simp
    have f1 := h1.full p k a _ ha.1 h'
    have f2 := (h2 a).full p (k + (e1 a).length) b r ha.2 (drop_past h')
    unfold seqR
    rw [f1]
    show _ = _
    rw [f2]
    simp [Nat.add_assoc]
def pureR {α : Type} (a : α) : Rdr α := fun _ k y => (a, k, y)
theorem Strict.pure {α : Type} (a : α) : Strict (pureR a) (fun _ => []) (fun x => x = a) where
  stuck := fun p k y hy => hy
  sound := fun p k _ => ⟨by simp [pureR], rfl⟩
  full := fun p k x r hx _ => by subst hx; simp [pureR]
theorem Strict.mono {α : Type} {f : Rdr α} {e1 e2 : α → List UInt8} {o1 o2 : α → Prop} (h : Strict f e1 o1) (he : ∀ a, e1 a = e2 a) (ho : ∀ a, o1 a ↔ o2 a) : Strict f e2 o2 where
  stuck := h.stuck
  sound := fun p k h2 => by have := h.sound p k h2; rw [he] at this; exact ⟨this.1, (ho _).1 this.2⟩
  full := fun p k a r ha h2 => by rw [← he] at h2 ⊢; exact h.full p k a r ((ho a).2 ha) h2

theorem rdC_strict (m : Int) (hm : m < 9223372036854775808) : Strict (fun p k y => rdC p k y m) putI (fun x => 0 ≤ x ∧ x ≤ m) where
  stuck := fun p k y hy => by show (rdC p k y m).2.2 ≠ 0; unfold rdC; rw [if_neg hy]; exact hy
  sound := fun p k h => by
    revert h
    show (rdC p k 0 m).2.2 = 0 → p.drop k = putI (rdC p k 0 m).1 ++ p.drop (rdC p k 0 m).2.1 ∧ (0 ≤ (rdC p k 0 m).1 ∧ (rdC p k 0 m).1 ≤ m)
    unfold rdC cntL
    rw [if_pos rfl]
    cases hn : numL (p.drop k) with
    | none => intro h; simp at h
    | some x =>
      obtain ⟨n, s⟩ := x
      simp only
      by_cases hlt : m < (n : Int)
      · rw [if_pos hlt]; intro h; simp at h
      · rw [if_neg hlt]
        intro _
        simp only [if_pos]
        obtain ⟨_, hs, r, hr⟩ := numL_strict hn
        refine ⟨?_, by omega, by omega⟩
        rw [show putI (n : Int) = putL n from by simp [putI], hs, drop_past hr]
        exact hr
  full := fun p k a r ha h => by
    show rdC p k 0 m = _
    obtain ⟨a0, a1⟩ := ha
    have hn : numL (p.drop k) = some (a.toNat, (putL a.toNat).length) := by rw [h]; exact numL_put (by omega) r
    unfold rdC cntL
    rw [if_pos rfl, hn]
    simp only
    rw [if_neg (show ¬ m < ((a.toNat : Nat) : Int) by omega)]
    simp only [if_pos]
    rw [show ((a.toNat : Nat) : Int) = a from by omega]
    rfl
theorem rdT_strict (m : Int) (hm : m < 9223372036854775808) : Strict (fun p k y => rdT p k y m) textP (fun x => (x.length : Int) ≤ m) where
  stuck := fun p k y hy => by show (rdT p k y m).2.2 ≠ 0; unfold rdT; rw [if_neg hy]; exact hy
  sound := fun p k h => by
    revert h
    show (rdT p k 0 m).2.2 = 0 → p.drop k = textP (rdT p k 0 m).1 ++ p.drop (rdT p k 0 m).2.1 ∧ (((rdT p k 0 m).1.length : Nat) : Int) ≤ m
    unfold rdT cntL
    rw [if_pos rfl]
    cases hn : numL (p.drop k) with
    | none => intro h; simp at h
    | some x =>
      obtain ⟨n, s⟩ := x
      simp only
      by_cases hlt : m < (n : Int)
      · rw [if_pos hlt]; intro h; simp at h
      · rw [if_neg hlt]
        simp only [if_pos]
        obtain ⟨_, hs, r, hr⟩ := numL_strict hn
        by_cases hle : p.length - k - s < n
        · rw [if_pos hle]; intro h; simp at h
        · rw [if_neg hle]
          intro _
          have hd : p.drop (k + s) = r := by rw [hs]; exact drop_past hr
          have hl : ((p.drop (k + s)).take n).length = n := by
            rw [List.length_take, List.length_drop]; omega
          refine ⟨?_, by rw [hl]; omega⟩
          simp only
          unfold textP
          rw [hl, List.append_assoc, ← List.drop_drop (i := n) (j := k + s), hd, List.take_append_drop]
          exact hr
  full := fun p k a r ha h => by
    show rdT p k 0 m = _
    unfold textP at h ⊢
    have hn : numL (p.drop k) = some (a.length, (putL a.length).length) := by rw [h, List.append_assoc]; exact numL_put (by omega) _
    unfold rdT cntL
    rw [if_pos rfl, hn]
    simp only
    rw [if_neg (show ¬ m < (a.length : Int) by omega)]
    simp only [if_pos]
    have hL := congrArg List.length h
    simp only [List.length_append, List.length_drop] at hL
    rw [if_neg (by omega)]
    have hd : p.drop (k + (putL a.length).length) = a ++ r := drop_past (by rw [h, List.append_assoc])
    rw [hd, List.take_left' rfl, List.length_append, Nat.add_assoc]

def numR : Rdr Int := fun p k y => rdC p k y 9223372036854775807
theorem numR_strict : Strict numR putI (fun x => Lays x) := (rdC_strict 9223372036854775807 (by decide)).mono (fun _ => rfl) (fun a => by unfold Lays; omega)
def stampR : Rdr (Int × Int) := seqR numR (fun _ => numR)
theorem stampR_strict : Strict stampR (fun x => stampP x.1 x.2) (fun x => Lays x.1 ∧ Lays x.2) := numR_strict.seq (fun _ => numR_strict)
/-- So many of them. -/
def manyOf {α : Type} (f : Rdr α) : Nat → Rdr (List α)
  | 0 => pureR []
  | n + 1 => fun p k y => ((manyOf f n p k y).1 ++ [(f p (manyOf f n p k y).2.1 (manyOf f n p k y).2.2).1], (f p (manyOf f n p k y).2.1 (manyOf f n p k y).2.2).2)
theorem snoc_of {α : Type} {l : List α} {n : Nat} (h : l.length = n + 1) : ∃ a b, l = a ++ [b] ∧ a.length = n := by
  refine ⟨l.dropLast, l.getLast (by intro e; subst e; simp at h), (List.dropLast_concat_getLast _).symm, by simp [h]⟩
theorem Strict.many {α : Type} {f : Rdr α} {enc : α → List UInt8} {ok : α → Prop} (hf : Strict f enc ok) : ∀ n, Strict (manyOf f n) (fun l => (l.map enc).flatten) (fun l => l.length = n ∧ ∀ a ∈ l, ok a)
  | 0 => ⟨fun p k y hy => hy, fun p k _ => ⟨by simp [manyOf, pureR], rfl, by simp [manyOf, pureR]⟩, fun p k a r ha h => by have := List.eq_nil_of_length_eq_zero ha.1; subst this; simp [manyOf, pureR]⟩
  | n + 1 => by
    have ih := hf.many n
    refine ⟨fun p k y hy => hf.stuck _ _ _ (ih.stuck p k y hy), fun p k h => ?_, fun p k a r ha h => ?_⟩
    · have y1 : (manyOf f n p k 0).2.2 = 0 := hf.zero (y := (manyOf f n p k 0).2.2) h
      have s1 := ih.sound p k y1
      have h' : (f p (manyOf f n p k 0).2.1 (manyOf f n p k 0).2.2).2.2 = 0 := h
      rw [y1] at h'
      have s2 := hf.sound p (manyOf f n p k 0).2.1 h'
      have e : manyOf f (n + 1) p k 0 = ((manyOf f n p k 0).1 ++ [(f p (manyOf f n p k 0).2.1 0).1], (f p (manyOf f n p k 0).2.1 0).2) := by
        show ((manyOf f n p k 0).1 ++ [(f p (manyOf f n p k 0).2.1 (manyOf f n p k 0).2.2).1], (f p (manyOf f n p k 0).2.1 (manyOf f n p k 0).2.2).2) = _
        rw [y1]
      rw [e]
      refine ⟨by rw [s1.1, s2.1]; simp, by simp [s1.2.1], fun a ha => ?_⟩
      rcases List.mem_append.1 ha with ha | ha
      · exact s1.2.2 a ha
      · rw [List.mem_singleton.1 ha]; exact s2.2
    · obtain ⟨l, b, rfl, hl⟩ := snoc_of ha.1
      have h2 : p.drop k = (l.map enc).flatten ++ (enc b ++ r) := by rw [h]; simp
      have f1 := ih.full p k l _ ⟨hl, fun z hz => ha.2 z (by simp [hz])⟩ h2
      have f2 := hf.full p (k + ((l.map enc).flatten).length) b r (ha.2 b (by simp)) (drop_past h2)
      show ((manyOf f n p k 0).1 ++ [(f p (manyOf f n p k 0).2.1 (manyOf f n p k 0).2.2).1], (f p (manyOf f n p k 0).2.1 (manyOf f n p k 0).2.2).2) = _
      rw [f1]
      show (l ++ [(f p (k + ((l.map enc).flatten).length) 0).1], (f p (k + ((l.map enc).flatten).length) 0).2) = _
      rw [f2]
      simp [Nat.add_assoc]
/-- How many, then so many of them. -/
def countOf {α : Type} (f : Rdr α) (m : Int) : Rdr (List α) := fun p k y => manyOf f (rdC p k y m).1.toNat p (rdC p k y m).2.1 (rdC p k y m).2.2
theorem Strict.count {α : Type} {f : Rdr α} {enc : α → List UInt8} {ok : α → Prop} (hf : Strict f enc ok) (m : Nat) (hm : m < 9223372036854775808) : Strict (countOf f m) (fun l => putL l.length ++ (l.map enc).flatten) (fun l => l.length ≤ m ∧ ∀ a ∈ l, ok a) := by
  have hC := rdC_strict m (by omega)
  refine ⟨fun p k y hy => (hf.many _).stuck _ _ _ (hC.stuck p k y hy), fun p k h => ?_, fun p k a r ha h => ?_⟩
  · have y1 : (rdC p k 0 m).2.2 = 0 := (hf.many _).zero (y := (rdC p k 0 m).2.2) h
    have s1 := hC.sound p k y1
    have h' : (manyOf f (rdC p k 0 m).1.toNat p (rdC p k 0 m).2.1 (rdC p k 0 m).2.2).2.2 = 0 := h
    have e : countOf f m p k 0 = manyOf f (rdC p k 0 m).1.toNat p (rdC p k 0 m).2.1 0 := by unfold countOf; rw [y1]
    rw [y1] at h'
    have s2 := (hf.many _).sound p (rdC p k 0 m).2.1 h'
    rw [e]
    generalize manyOf f (rdC p k 0 m).1.toNat p (rdC p k 0 m).2.1 0 = R at *
    refine ⟨?_, by omega, s2.2.2⟩
    rw [s1.1, s2.1]
    unfold putI
    rw [s2.2.1, List.append_assoc]
  · have f1 := hC.full p k (a.length : Int) ((a.map enc).flatten ++ r) ⟨by omega, by omega⟩ (by rw [h]; simp [putI])
    have f2 := (hf.many a.length).full p (k + (putL a.length).length) a r ⟨rfl, ha.2⟩ (drop_past (by rw [h]; simp))
    unfold countOf
    rw [f1]
    simp only [Int.toNat_natCast, putI]
    rw [f2]
    simp [Nat.add_assoc]
def numsR : Rdr (List Int) := countOf numR 64
theorem numsR_strict : Strict numsR listP (fun l => l.length ≤ 64 ∧ ∀ a ∈ l, Lays a) := numR_strict.count 64 (by decide)

/-- What comes behind a change's clock: node, parent, after, name, value. -/
abbrev Rest := (Int × Int) × (Int × Int) × (Int × Int) × List UInt8 × List UInt8
def restR (kd : Int) (at_ : Int × Int) (m1 m2 : Int) : Rdr Rest :=
  if kd = 1 then seqR (pureR at_) fun _ => seqR stampR fun _ => seqR stampR fun _ => seqR (fun p k y => rdT p k y m1) fun _ => pureR []
  else if kd = 2 then seqR stampR fun _ => seqR stampR fun _ => seqR stampR fun _ => seqR (pureR []) fun _ => pureR []
  else if kd = 3 then seqR stampR fun _ => seqR (pureR (0, 0)) fun _ => seqR (pureR (0, 0)) fun _ => seqR (fun p k y => rdT p k y m1) fun _ => fun p k y => rdT p k y m2
  else if kd = 4 then seqR stampR fun _ => seqR (pureR (0, 0)) fun _ => seqR (pureR (0, 0)) fun _ => seqR (fun p k y => rdT p k y m1) fun _ => pureR []
  else if kd = 5 then seqR stampR fun _ => seqR (pureR (0, 0)) fun _ => seqR (pureR (0, 0)) fun _ => seqR (pureR []) fun _ => fun p k y => rdT p k y m2
  else pureR ((0, 0), (0, 0), (0, 0), [], [])
def LayS (x : Int × Int) : Prop := Lays x.1 ∧ Lays x.2
def restE (kd : Int) (x : Rest) : List UInt8 :=
  if kd = 1 then stampP x.2.1.1 x.2.1.2 ++ (stampP x.2.2.1.1 x.2.2.1.2 ++ textP x.2.2.2.1)
  else if kd = 2 then stampP x.1.1 x.1.2 ++ (stampP x.2.1.1 x.2.1.2 ++ stampP x.2.2.1.1 x.2.2.1.2)
  else if kd = 3 then stampP x.1.1 x.1.2 ++ (textP x.2.2.2.1 ++ textP x.2.2.2.2)
  else if kd = 4 then stampP x.1.1 x.1.2 ++ textP x.2.2.2.1
  else if kd = 5 then stampP x.1.1 x.1.2 ++ textP x.2.2.2.2
  else []
def restO (kd : Int) (at_ : Int × Int) (m1 m2 : Int) (x : Rest) : Prop :=
  if kd = 1 then x.1 = at_ ∧ LayS x.2.1 ∧ LayS x.2.2.1 ∧ (x.2.2.2.1.length : Int) ≤ m1 ∧ x.2.2.2.2 = []
  else if kd = 2 then LayS x.1 ∧ LayS x.2.1 ∧ LayS x.2.2.1 ∧ x.2.2.2.1 = [] ∧ x.2.2.2.2 = []
  else if kd = 3 then LayS x.1 ∧ x.2.1 = (0, 0) ∧ x.2.2.1 = (0, 0) ∧ (x.2.2.2.1.length : Int) ≤ m1 ∧ (x.2.2.2.2.length : Int) ≤ m2
  else if kd = 4 then LayS x.1 ∧ x.2.1 = (0, 0) ∧ x.2.2.1 = (0, 0) ∧ (x.2.2.2.1.length : Int) ≤ m1 ∧ x.2.2.2.2 = []
  else if kd = 5 then LayS x.1 ∧ x.2.1 = (0, 0) ∧ x.2.2.1 = (0, 0) ∧ x.2.2.2.1 = [] ∧ (x.2.2.2.2.length : Int) ≤ m2
  else x = ((0, 0), (0, 0), (0, 0), [], [])
theorem restR_strict (kd : Int) (at_ : Int × Int) (m1 m2 : Int) (h1 : m1 < 9223372036854775808) (h2 : m2 < 9223372036854775808) : Strict (restR kd at_ m1 m2) (restE kd) (restO kd at_ m1 m2) := by
  have hS := stampR_strict
  have hT1 := rdT_strict m1 h1
  have hT2 := rdT_strict m2 h2
  by_cases k1 : kd = 1
  · subst k1
    exact ((Strict.pure at_).seq fun _ => hS.seq fun _ => hS.seq fun _ => hT1.seq fun _ => Strict.pure []).mono (fun x => by simp [restE]) (fun x => by simp [restO, LayS])
  by_cases k2 : kd = 2
  · subst k2
    exact (hS.seq fun _ => hS.seq fun _ => hS.seq fun _ => (Strict.pure []).seq fun _ => Strict.pure []).mono (fun x => by simp [restE]) (fun x => by simp [restO, LayS])
  by_cases k3 : kd = 3
  · subst k3
    exact (hS.seq fun _ => (Strict.pure (0, 0)).seq fun _ => (Strict.pure (0, 0)).seq fun _ => hT1.seq fun _ => hT2).mono (fun x => by simp [restE]) (fun x => by simp [restO, LayS])
  by_cases k4 : kd = 4
  · subst k4
    exact (hS.seq fun _ => (Strict.pure (0, 0)).seq fun _ => (Strict.pure (0, 0)).seq fun _ => hT1.seq fun _ => Strict.pure []).mono (fun x => by simp [restE]) (fun x => by simp [restO, LayS])
  by_cases k5 : kd = 5
  · subst k5
    exact (hS.seq fun _ => (Strict.pure (0, 0)).seq fun _ => (Strict.pure (0, 0)).seq fun _ => (Strict.pure []).seq fun _ => hT2).mono (fun x => by simp [restE]) (fun x => by simp [restO, LayS])
  have e : restR kd at_ m1 m2 = pureR ((0, 0), (0, 0), (0, 0), [], []) := by unfold restR; rw [if_neg k1, if_neg k2, if_neg k3, if_neg k4, if_neg k5]
  rw [e]
  exact (Strict.pure _).mono (fun x => by simp [restE, k1, k2, k3, k4, k5]) (fun x => by simp [restO, k1, k2, k3, k4, k5])

/-- A change as it is read. -/
abbrev ChT := Int × (Int × Int) × Int × List Int × Rest
def chanR (m1 m2 : Int) : Rdr ChT := seqR numR fun kd => seqR stampR fun a => seqR numR fun _ => seqR numsR fun _ => restR kd a m1 m2
def mkCh (x : ChT) : Ch := ⟨x.2.1.1, x.2.1.2, x.2.2.1, x.2.2.2.1, x.1, x.2.2.2.2.1.1, x.2.2.2.2.1.2, x.2.2.2.2.2.1.1, x.2.2.2.2.2.1.2, x.2.2.2.2.2.2.1.1, x.2.2.2.2.2.2.1.2, txt x.2.2.2.2.2.2.2.1, txt x.2.2.2.2.2.2.2.2⟩
def chanE (x : ChT) : List UInt8 := putI x.1 ++ (stampP x.2.1.1 x.2.1.2 ++ (putI x.2.2.1 ++ (listP x.2.2.2.1 ++ restE x.1 x.2.2.2.2)))
def chanO (m1 m2 : Int) (x : ChT) : Prop := Lays x.1 ∧ LayS x.2.1 ∧ Lays x.2.2.1 ∧ (x.2.2.2.1.length ≤ 64 ∧ ∀ a ∈ x.2.2.2.1, Lays a) ∧ restO x.1 x.2.1 m1 m2 x.2.2.2.2
theorem chanR_strict (m1 m2 : Int) (h1 : m1 < 9223372036854775808) (h2 : m2 < 9223372036854775808) : Strict (chanR m1 m2) chanE (chanO m1 m2) :=
  (numR_strict.seq fun kd => stampR_strict.seq fun a => numR_strict.seq fun _ => numsR_strict.seq fun _ => restR_strict kd a m1 m2 h1 h2).mono (fun x => rfl) (fun x => Iff.rfl)
theorem chanE_mk {x : ChT} (h : kindB x.1 = true) : bytesCh (mkCh x) = chanE x := by
  simp only [kindB, decide_eq_true_eq] at h
  unfold bytesCh chanE mkCh restP restE txt
  simp only
  rcases show x.1 = 1 ∨ x.1 = 2 ∨ x.1 = 3 ∨ x.1 = 4 ∨ x.1 = 5 by omega with k | k | k | k | k <;> simp [k]
def unCh (c : Ch) : ChT := (c.kind, (c.ac, c.ar), c.seq, c.deps, (c.nc, c.nr), (c.pc, c.pr), (c.fc, c.fr), c.name.data.toList, c.value.data.toList)
theorem mk_un (c : Ch) : mkCh (unCh c) = c := by cases c; simp [mkCh, unCh, txt]
theorem un_ok {c : Ch} (h : checkCh c = 0) {m1 m2 : Int} (h1 : 32 ≤ m1) (h2 : 256 ≤ m2) : chanO m1 m2 (unCh c) := by
  have f := fine c h
  have n1 := name_len h
  have v1 := value_len h
  have fk := f.kind
  have fs0 := f.seq0
  have fs1 := f.seq1
  have hN := node_lays f.node
  have hP := node_lays f.parent
  have hF := node_lays f.after
  have hA := node_lays f.at_
  refine ⟨by unfold Lays unCh; simp only; omega, hA, by unfold Lays unCh; simp only; omega, clock_lays f.deps, ?_⟩
  unfold restO unCh
  simp only
  rcases fk with k | k | k | k | k
  · rw [if_pos k]
    exact ⟨by rw [(f.made k).1, (f.made k).2], hP, hF, by omega, by rw [f.novalue (by rw [k]; decide)]⟩
  · rw [if_neg (by rw [k]; decide), if_pos k]
    exact ⟨hN, hP, hF, by rw [f.noname (by rw [k]; decide)], by rw [f.novalue (by rw [k]; decide)]⟩
  · have p1 := f.noplace (by rw [k]; decide)
    rw [if_neg (by rw [k]; decide), if_neg (by rw [k]; decide), if_pos k]
    exact ⟨hN, by rw [p1.1, p1.2.1], by rw [p1.2.2.1, p1.2.2.2], by omega, by omega⟩
  · have p1 := f.noplace (by rw [k]; decide)
    rw [if_neg (by rw [k]; decide), if_neg (by rw [k]; decide), if_neg (by rw [k]; decide), if_pos k]
    exact ⟨hN, by rw [p1.1, p1.2.1], by rw [p1.2.2.1, p1.2.2.2], by omega, by rw [f.novalue (by rw [k]; decide)]⟩
  · have p1 := f.noplace (by rw [k]; decide)
    rw [if_neg (by rw [k]; decide), if_neg (by rw [k]; decide), if_neg (by rw [k]; decide), if_neg (by rw [k]; decide), if_pos k]
    exact ⟨hN, by rw [p1.1, p1.2.1], by rw [p1.2.2.1, p1.2.2.2], by rw [f.noname (by rw [k]; decide)], by omega⟩
theorem un_enc {c : Ch} (h : checkCh c = 0) : chanE (unCh c) = bytesCh c := by
  rw [← chanE_mk (x := unCh c) (checkCh_ok c h).1, mk_un]
/-- The change that bytes are, and an error. -/
def getF (p : List UInt8) : Ch × Int :=
  if doneL p (chanR 32 256 p 0 0).2.1 (chanR 32 256 p 0 0).2.2 = 0 ∧ checkCh (mkCh (chanR 32 256 p 0 0).1) = 0 then (mkCh (chanR 32 256 p 0 0).1, 0) else (Ch.none, 2)
theorem done_zero {p : List UInt8} {k : Nat} {y : Int} (h : doneL p k y = 0) : y = 0 ∧ p.length ≤ k := by
  unfold doneL at h
  split at h
  · split at h
    · cases h
    · exact ⟨by assumption, by omega⟩
  · exact absurd h (by assumption)
theorem getF_sound {p : List UInt8} (h : (getF p).2 = 0) : checkCh (getF p).1 = 0 ∧ bytesCh (getF p).1 = p := by
  have hS := chanR_strict 32 256 (by decide) (by decide)
  unfold getF at h ⊢
  by_cases hc : doneL p (chanR 32 256 p 0 0).2.1 (chanR 32 256 p 0 0).2.2 = 0 ∧ checkCh (mkCh (chanR 32 256 p 0 0).1) = 0
  · rw [if_pos hc]
    obtain ⟨hy, hk⟩ := done_zero hc.1
    have s := hS.sound p 0 hy
    refine ⟨hc.2, ?_⟩
    rw [chanE_mk (checkCh_ok _ hc.2).1]
    have := s.1
    rw [List.drop_zero, List.drop_eq_nil_of_le hk, List.append_nil] at this
    exact this.symm
  · rw [if_neg hc] at h; cases h
theorem chan_full {c : Ch} (h : checkCh c = 0) {m1 m2 : Int} (h1 : 32 ≤ m1) (h2 : 256 ≤ m2) (h3 : m1 < 9223372036854775808) (h4 : m2 < 9223372036854775808) : chanR m1 m2 (bytesCh c) 0 0 = (unCh c, (bytesCh c).length, 0) := by
  have := (chanR_strict m1 m2 h3 h4).full (bytesCh c) 0 (unCh c) [] (un_ok h h1 h2) (by rw [un_enc h]; simp)
  rw [this, un_enc h, Nat.zero_add]
theorem getF_full {c : Ch} (h : checkCh c = 0) : getF (bytesCh c) = (c, 0) := by
  have f := chan_full h (m1 := 32) (m2 := 256) (by decide) (by decide) (by decide) (by decide)
  unfold getF
  rw [f]
  simp only [mk_un]
  rw [if_pos ⟨by simp [doneL], h⟩]
theorem getF_cases (p : List UInt8) : (getF p).2 = 0 ∨ getF p = (Ch.none, 2) := by
  unfold getF
  split
  · exact .inl rfl
  · exact .inr rfl
theorem getF_no {p : List UInt8} (h : ∀ c, checkCh c = 0 → bytesCh c ≠ p) : getF p = (Ch.none, 2) := by
  rcases getF_cases p with h2 | h2
  · exact absurd (getF_sound h2).2 (h _ (getF_sound h2).1)
  · exact h2
theorem bytesCh_pos (c : Ch) : 0 < (bytesCh c).length := by
  unfold bytesCh
  rw [List.length_append]
  have := putL_pos c.kind.toNat
  unfold putI
  omega
theorem getF_nil : getF [] = (Ch.none, 2) := getF_no fun c _ e => by have := bytesCh_pos c; rw [e] at this; simp at this

end Go.Proofs.YtlioiblpcpaejaaGreat

namespace Go.Proofs.YtlioiblpcpaejaaGreat
set_option linter.unusedVariables false

/-- A change that comes as a text; its error stands for the reader's. -/
def chR (m : Int) : Rdr Ch := fun p k y => ((getF (rdT p k y m).1).1, (rdT p k y m).2.1, if (rdT p k y m).2.2 = 0 then (getF (rdT p k y m).1).2 else (rdT p k y m).2.2)
theorem chR_strict (m : Int) (h1 : 1000 ≤ m) (h2 : m < 9223372036854775808) : Strict (chR m) (fun c => textP (bytesCh c)) (fun c => checkCh c = 0) := by
  have hT := rdT_strict m h2
  refine ⟨fun p k y hy => ?_, fun p k h => ?_, fun p k a r ha h => ?_⟩
  · have := hT.stuck p k y hy
    show (if (rdT p k y m).2.2 = 0 then _ else _) ≠ (0 : Int)
    rw [if_neg this]
    exact this
  · have h' : (if (rdT p k 0 m).2.2 = 0 then (getF (rdT p k 0 m).1).2 else (rdT p k 0 m).2.2) = 0 := h
    by_cases hy : (rdT p k 0 m).2.2 = 0
    · rw [if_pos hy] at h'
      have s := hT.sound p k hy
      have g := getF_sound h'
      refine ⟨?_, g.1⟩
      show p.drop k = textP (bytesCh (getF (rdT p k 0 m).1).1) ++ p.drop (rdT p k 0 m).2.1
      rw [g.2]
      exact s.1
    · rw [if_neg hy] at h'; exact absurd h' hy
  · have := bytesCh_len ha
    have f := hT.full p k (bytesCh a) r (by omega) h
    unfold chR
    rw [f, getF_full ha]
    simp
def chsR (m : Int) : Rdr (List Ch) := countOf (chR m) 64
theorem chsR_strict (m : Int) (h1 : 1000 ≤ m) (h2 : m < 9223372036854775808) : Strict (chsR m) (fun l => putL l.length ++ chsP l) (fun l => l.length ≤ 64 ∧ ∀ c ∈ l, checkCh c = 0) := (chR_strict m h1 h2).count 64 (by decide)
/-- A frame's load as it is read. -/
abbrev FrT := Int × List Int × Int × List Ch
def frR (m : Int) : Rdr FrT := seqR numR fun _ => seqR numsR fun _ => seqR (fun p k y => rdC p k y 1) fun _ => chsR m
def frE (x : FrT) : List UInt8 := putI x.1 ++ (listP x.2.1 ++ (putI x.2.2.1 ++ (putL x.2.2.2.length ++ chsP x.2.2.2)))
def frO (x : FrT) : Prop := Lays x.1 ∧ (x.2.1.length ≤ 64 ∧ ∀ a ∈ x.2.1, Lays a) ∧ (0 ≤ x.2.2.1 ∧ x.2.2.1 ≤ 1) ∧ (x.2.2.2.length ≤ 64 ∧ ∀ c ∈ x.2.2.2, checkCh c = 0)
theorem frR_strict (m : Int) (h1 : 1000 ≤ m) (h2 : m < 9223372036854775808) : Strict (frR m) frE frO :=
  (numR_strict.seq fun _ => numsR_strict.seq fun _ => (rdC_strict 1 (by decide)).seq fun _ => chsR_strict m h1 h2).mono (fun x => rfl) (fun x => Iff.rfl)
def mkFr (k : Int) (x : FrT) : Fr := ⟨k, x.1, x.2.1, decide (x.2.2.1 = 1), x.2.2.2⟩
/-- What Check tells of a frame but for its changes. -/
def headFr (f : Fr) : Int :=
  if 1 ≤ f.kind ∧ f.kind ≤ 3 ∧ 0 ≤ f.from_ ∧ f.from_ < 64 then
    if checkL f.clock = 0 then
      if (trimL f.clock).length = f.clock.length then
        if f.changes.length ≤ 64 then
          if (f.kind = 1 ∧ (0 < f.clock.length ∨ f.more = true ∨ f.changes.length = 0)) ∨ (f.kind = 2 ∧ (f.more = true ∨ 0 < f.changes.length)) then 2
          else 0
        else 3
      else 2
    else checkL f.clock
  else 1
theorem checkFr_head (f : Fr) : checkFr f = if headFr f = 0 then firstE f.changes else headFr f := by
  unfold checkFr headFr
  by_cases h1 : 1 ≤ f.kind ∧ f.kind ≤ 3 ∧ 0 ≤ f.from_ ∧ f.from_ < 64
  · by_cases h2 : checkL f.clock = 0
    · by_cases h3 : (trimL f.clock).length = f.clock.length
      · by_cases h4 : f.changes.length ≤ 64
        · by_cases h5 : (f.kind = 1 ∧ (0 < f.clock.length ∨ f.more = true ∨ f.changes.length = 0)) ∨ (f.kind = 2 ∧ (f.more = true ∨ 0 < f.changes.length))
          · rw [if_pos h1, if_pos h2, if_pos h3, if_pos h4, if_pos h5, if_pos h1, if_pos h2, if_pos h3, if_pos h4, if_pos h5]; simp
          · rw [if_pos h1, if_pos h2, if_pos h3, if_pos h4, if_neg h5, if_pos h1, if_pos h2, if_pos h3, if_pos h4, if_neg h5]; simp
        · rw [if_pos h1, if_pos h2, if_pos h3, if_neg h4, if_pos h1, if_pos h2, if_pos h3, if_neg h4]; simp
      · rw [if_pos h1, if_pos h2, if_neg h3, if_pos h1, if_pos h2, if_neg h3]; simp
    · rw [if_pos h1, if_neg h2, if_pos h1, if_neg h2, if_neg h2]
  · rw [if_neg h1, if_neg h1]; simp
theorem firstE_all {l : List Ch} (h : ∀ c ∈ l, checkCh c = 0) : firstE l = 0 := by
  induction l with
  | nil => rfl
  | cons c l ih => unfold firstE; rw [if_pos (h c (by simp))]; exact ih fun d hd => h d (by simp [hd])
theorem firstE_take {l : List Ch} {k : Nat} (h : k < l.length) (ha : ∀ i (hi : i < l.length), i < k → checkCh l[i] = 0) (hb : checkCh l[k] ≠ 0) : firstE l = checkCh l[k] := by
  induction l generalizing k with
  | nil => simp at h
  | cons c l ih =>
    cases k with
    | zero => unfold firstE; rw [if_neg (show ¬ checkCh c = 0 from hb)]; rfl
    | succ k =>
      unfold firstE
      rw [if_pos (show checkCh c = 0 from ha 0 (by simp) (by omega))]
      exact ih (by simpa using h) (fun i hi hk => ha (i + 1) (by simpa using hi) (by omega)) hb
/-- The frame that bytes are, and an error. -/
def loadF (m : Int) (kind : Int) (load : List UInt8) : Fr × Int :=
  if doneL load (frR m load 0 0).2.1 (frR m load 0 0).2.2 = 0 ∧ headFr (mkFr kind (frR m load 0 0).1) = 0 then (mkFr kind (frR m load 0 0).1, 0) else (Fr.none, 2)
def readF (p : List UInt8) : Fr × Int := if (openL p).2.2 = 0 then loadF 65536 ((openL p).1 : Int) (openL p).2.1 else (Fr.none, (openL p).2.2)
def writeF (f : Fr) : List UInt8 × Int := if checkFr f = 0 then (frameL f.kind.toNat (loadFr f), 0) else ([], checkFr f)
theorem mkFr_load {k : Int} {x : FrT} (h : frO x) : loadFr (mkFr k x) = frE x := by
  unfold loadFr frE mkFr
  obtain ⟨_, _, h3, _⟩ := h
  rcases show x.2.2.1 = 0 ∨ x.2.2.1 = 1 by omega with e | e <;> simp [e, putI]
def unFr (f : Fr) : FrT := (f.from_, f.clock, (if f.more = true then 1 else 0), f.changes)
theorem mk_unFr (f : Fr) : mkFr f.kind (unFr f) = f := by
  obtain ⟨a, b, c, d, e⟩ := f
  cases d <;> simp [mkFr, unFr]
theorem unFr_ok {f : Fr} (h : checkFr f = 0) : frO (unFr f) := by
  obtain ⟨⟨_, _, f1, f2⟩, f3, _, f4, _, f5⟩ := checkFr_ok h
  refine ⟨by unfold Lays unFr; simp only; omega, clock_lays f3, ?_, f4, f5⟩
  unfold unFr
  cases f.more <;> simp
theorem unFr_enc {f : Fr} (h : checkFr f = 0) : frE (unFr f) = loadFr f := by
  rw [← mkFr_load (k := f.kind) (unFr_ok h), mk_unFr]
theorem headFr_of {f : Fr} (h : checkFr f = 0) : headFr f = 0 := by
  rw [checkFr_head] at h
  split at h
  · assumption
  · exact h
theorem loadF_full {f : Fr} (h : checkFr f = 0) {m : Int} (h1 : 1000 ≤ m) (h2 : m < 9223372036854775808) : loadF m f.kind (loadFr f) = (f, 0) := by
  have s := (frR_strict m h1 h2).full (loadFr f) 0 (unFr f) [] (unFr_ok h) (by rw [unFr_enc h]; simp)
  unfold loadF
  rw [s, unFr_enc h, Nat.zero_add]
  simp only [mk_unFr]
  rw [if_pos ⟨by simp [doneL], headFr_of h⟩]
theorem loadF_sound {m k : Int} {load : List UInt8} (h1 : 1000 ≤ m) (h2 : m < 9223372036854775808) (h : (loadF m k load).2 = 0) : checkFr (loadF m k load).1 = 0 ∧ loadFr (loadF m k load).1 = load ∧ (loadF m k load).1.kind = k := by
  unfold loadF at h ⊢
  by_cases hc : doneL load (frR m load 0 0).2.1 (frR m load 0 0).2.2 = 0 ∧ headFr (mkFr k (frR m load 0 0).1) = 0
  · rw [if_pos hc]
    obtain ⟨hy, hk⟩ := done_zero hc.1
    have s := (frR_strict m h1 h2).sound load 0 hy
    refine ⟨?_, ?_, rfl⟩
    · rw [checkFr_head, if_pos hc.2]
      exact firstE_all s.2.2.2.2.2
    · rw [mkFr_load s.2]
      have := s.1
      rw [List.drop_zero, List.drop_eq_nil_of_le hk, List.append_nil] at this
      exact this.symm
  · rw [if_neg hc] at h; cases h
theorem loadF_cases (m k : Int) (load : List UInt8) : (loadF m k load).2 = 0 ∨ loadF m k load = (Fr.none, 2) := by
  unfold loadF
  split
  · exact .inl rfl
  · exact .inr rfl
theorem readF_full {f : Fr} (h : checkFr f = 0) : readF (frameL f.kind.toNat (loadFr f)) = (f, 0) := by
  obtain ⟨⟨k1, k2, _, _⟩, _⟩ := checkFr_ok h
  have hl := loadFr_len h
  unfold readF
  rw [open_seal (by omega) (by omega) (by omega), if_pos rfl]
  simp only
  rw [show ((f.kind.toNat : Nat) : Int) = f.kind by omega]
  exact loadF_full h (by decide) (by decide)
theorem readF_sound {p : List UInt8} (h : (readF p).2 = 0) : checkFr (readF p).1 = 0 ∧ frameL (readF p).1.kind.toNat (loadFr (readF p).1) = p := by
  unfold readF at h ⊢
  by_cases ho : (openL p).2.2 = 0
  · rw [if_pos ho] at h ⊢
    obtain ⟨a, b, c⟩ := loadF_sound (by decide) (by decide) h
    refine ⟨a, ?_⟩
    rw [b, c, Int.toNat_natCast]
    exact (seal_open ho).2.2.2.1
  · rw [if_neg ho] at h; exact absurd h ho
theorem readF_err (p : List UInt8) : (readF p).2 = 0 ∨ readF p = (Fr.none, 2) ∨ readF p = (Fr.none, 9) := by
  unfold readF
  by_cases ho : (openL p).2.2 = 0
  · rw [if_pos ho]
    rcases loadF_cases 65536 ((openL p).1 : Int) (openL p).2.1 with h | h
    · exact .inl h
    · exact .inr (.inl h)
  · rw [if_neg ho]
    rcases openL_err p with h | h | h
    · exact absurd h ho
    · rw [h]; exact .inr (.inl rfl)
    · rw [h]; exact .inr (.inr rfl)
theorem readF_write {f : Fr} (h : (writeF f).2 = 0) : checkFr f = 0 ∧ readF (writeF f).1 = (f, 0) := by
  unfold writeF at h ⊢
  by_cases hc : checkFr f = 0
  · rw [if_pos hc]; exact ⟨hc, readF_full hc⟩
  · rw [if_neg hc] at h; exact absurd h hc
theorem writeF_read {p : List UInt8} (h : (readF p).2 = 0) : writeF (readF p).1 = (p, 0) := by
  obtain ⟨a, b⟩ := readF_sound h
  unfold writeF
  rw [if_pos a, b]
/-- The document's Read: the only frame that the bytes can be, if its bytes are these. -/
theorem readF_of {p : List UInt8} (ho : (openL p).2.2 = 0) {g : Fr} (hg : ∀ f, checkFr f = 0 → f.kind = ((openL p).1 : Int) → loadFr f = (openL p).2.1 → g = f) :
    readF p = if checkFr g = 0 ∧ frameL g.kind.toNat (loadFr g) = p then (g, 0) else (Fr.none, 2) := by
  have e : readF p = loadF 65536 ((openL p).1 : Int) (openL p).2.1 := by unfold readF; rw [if_pos ho]
  by_cases hc : checkFr g = 0 ∧ frameL g.kind.toNat (loadFr g) = p
  · rw [if_pos hc, ← hc.2]; exact readF_full hc.1
  · rw [if_neg hc, e]
    rcases loadF_cases 65536 ((openL p).1 : Int) (openL p).2.1 with h | h
    · obtain ⟨a, b, c⟩ := loadF_sound (by decide) (by decide) h
      have e2 := hg _ a c b
      refine absurd ⟨by rw [e2]; exact a, ?_⟩ hc
      rw [e2, b, c, Int.toNat_natCast]
      exact (seal_open ho).2.2.2.1
    · exact h
theorem getF_of {p : List UInt8} {g : Ch} (hg : ∀ c, checkCh c = 0 → bytesCh c = p → g = c) : getF p = if checkCh g = 0 ∧ bytesCh g = p then (g, 0) else (Ch.none, 2) := by
  by_cases hc : checkCh g = 0 ∧ bytesCh g = p
  · rw [if_pos hc, ← hc.2]; exact getF_full hc.1
  · rw [if_neg hc]
    rcases getF_cases p with h | h
    · obtain ⟨a, b⟩ := getF_sound h
      have e := hg _ a b
      exact absurd ⟨by rw [e]; exact a, by rw [e]; exact b⟩ hc
    · exact h

end Go.Proofs.YtlioiblpcpaejaaGreat
