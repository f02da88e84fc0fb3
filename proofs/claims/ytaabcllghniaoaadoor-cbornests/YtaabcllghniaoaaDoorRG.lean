/- A region that draws its order, told by a table: what each of its operations leaves, one step a operation. -/
import Derived.Test.YtaabcllghniaoaaDoorKB
import Derived.Great.BuildSlice
namespace Go.Proofs.YtaabcllghniaoaaDoor
open Go Go.RowKit
/-- The blocks that a value leads to. -/
def blks : Value → List Nat
  | .pointer (some a) => [a.block]
  | .slice (some a) _ _ => [a.block]
  | .tuple vs => match vs.toList with
    | .slice (some a) _ _ :: _ => [a.block]
    | _ => []
  | _ => []
/-- What is known of a value and of its own block alone. -/
structure Rel where
  r : World → Value → Prop
  loc : ∀ (w w' : World) (v : Value), (∀ g ∈ blks v, w'.heap[g]? = w.heap[g]?) → r w v → r w' v
/-- What an operation leaves: the very value; something of a kind; a block of its own, which holds A, and B as soon as operation q has come up; a row of its own of parts (values, or what operations left); something with a block of its own, or with none, of which R holds; the same until operation z takes it; what operation k left. -/
inductive Lv where
  | v (x : Value)
  | p (F : Value → Prop)
  | mk (A B : Array Value) (t : TypeId) (q : Nat)
  | bs (ps : List (Nat ⊕ Value)) (t : TypeId)
  | ow (R : Rel)
  | od (R : Rel) (z : Nat)
  | fn (k : Nat) (g : Value → Value)
namespace Lv
/-- What operation k left. -/
@[reducible] def al (k : Nat) : Lv := .fn k id
def F : Lv → Value → Prop
  | v x, y => y = x
  | p f, y => f y
  | mk .., y => ∃ g, y = .pointer (some ⟨g, 0, none⟩)
  | bs ps _, y => ∃ g, y = .slice (some ⟨g, 0, none⟩) ps.length ps.length
  | ow _, _ => True
  | od _ _, _ => True
  | fn _ _, _ => True
def val : Lv → Value → Value
  | v x, _ => x
  | _, y => y
theorem val_of {l : Lv} {y : Value} (h : l.F y) : l.val y = y := by
  cases l with
  | v x => exact (show y = x from h).symm
  | _ => rfl
def made : Lv → Bool
  | v _ => false
  | p _ => false
  | fn _ _ => false
  | _ => true
/-- No block waits for operation i to be written. -/
def free (T : List Lv) (i : Nat) : Bool := T.all fun
  | mk _ _ _ q => q != i
  | _ => true
end Lv
/-- Nothing is told of what it leaves. -/
def Lv.o : Lv := .p fun _ => True
def lvAt (T : List Lv) (i : Nat) : Lv := T.getD i (.p fun _ => True)
/-- What operation i left is there, and no operation has taken it. -/
def live (T : List Lv) (L : Nat → Bool) (i : Nat) : Bool := L i && match lvAt T i with
  | .od _ z => !L z
  | _ => true
theorem live_on {T : List Lv} {L : Nat → Bool} {i : Nat} (h : live T L i = true) : L i = true := by
  unfold live at h
  exact (Bool.and_eq_true_iff.1 h).1
theorem live_of {T : List Lv} {L : Nat → Bool} {i : Nat} (h : L i = true) (hn : ∀ R z, lvAt T i ≠ .od R z) : live T L i = true := by
  unfold live
  rw [h]
  cases e : lvAt T i <;> first | rfl | exact absurd e (hn _ _)
theorem live_mk {T : List Lv} {L : Nat → Bool} {i : Nat} {A B : Array Value} {t : TypeId} {q : Nat} (e : lvAt T i = .mk A B t q) (h : L i = true) : live T L i = true := live_of h fun _ _ e' => by rw [e] at e'; cases e'
theorem live_bs {T : List Lv} {L : Nat → Bool} {i : Nat} {ps : List (Nat ⊕ Value)} {t : TypeId} (e : lvAt T i = .bs ps t) (h : L i = true) : live T L i = true := live_of h fun _ _ e' => by rw [e] at e'; cases e'
theorem live_ow {T : List Lv} {L : Nat → Bool} {i : Nat} {R : Rel} (e : lvAt T i = .ow R) (h : L i = true) : live T L i = true := live_of h fun _ _ e' => by rw [e] at e'; cases e'
theorem live_od {T : List Lv} {L : Nat → Bool} {i z : Nat} {R : Rel} (e : lvAt T i = .od R z) (h : L i = true) (hz : L z = false) : live T L i = true := by
  unfold live
  rw [h, e]
  simp [hz]
abbrev Kl := List (Nat × Array Value × TypeId)
/-- A block's cells, whatever of it is marked as a text's. -/
def RowAt (w : World) (g : Nat) (A : Array Value) (t : TypeId) : Prop := ∃ fr, w.heap[g]? = some (.cells A t fr)
theorem RowAt.cell {w : World} {g i : Nat} {A : Array Value} {t : TypeId} {v : Value} (h : RowAt w g A t) (hv : A[i]? = some v) : w.cell? ⟨g, i, none⟩ = some v := by
  obtain ⟨fr, h⟩ := h
  rw [cell_of_row w g i A t fr h]
  exact hv
theorem Own.rowAt {w : World} {g : Nat} {A : Array Value} {t : TypeId} (h : Own w g A t) : RowAt w g A t := ⟨_, h⟩
def res (vs : Nat → Value) : Nat ⊕ Value → Value
  | .inl k => vs k
  | .inr v => v
/-- What memory holds while a region's operations come up. -/
structure RJ (l : (Nat → Bool) → Kl) (w0 : World) (T : List Lv) (L : Nat → Bool) (vs : Nat → Value) (w : World) : Prop where
  kp : Kp (l L) w0 w
  fr : ∀ i, (lvAt T i).made = true → live T L i = true → ∀ g ∈ blks (vs i), w0.heap.size ≤ g ∧ g < w.heap.size ∧ ∀ p ∈ l L, p.1 ≠ g
  ap : ∀ i j, (lvAt T i).made = true → (lvAt T j).made = true → i ≠ j → live T L i = true → live T L j = true → ∀ g ∈ blks (vs i), g ∉ blks (vs j)
  bl : ∀ i A B t q, lvAt T i = .mk A B t q → L i = true → ∃ g, vs i = .pointer (some ⟨g, 0, none⟩) ∧ Own w g (if L q = true then B else A) t
  bs : ∀ i ps t, lvAt T i = .bs ps t → L i = true → (∀ k, Sum.inl k ∈ ps → L k = true) ∧ ∃ g, vs i = .slice (some ⟨g, 0, none⟩) ps.length ps.length ∧ RowAt w g (ps.map (res vs)).toArray t
  ow : ∀ i R, lvAt T i = .ow R → L i = true → R.r w (vs i)
  od : ∀ i R z, lvAt T i = .od R z → live T L i = true → R.r w (vs i)
  al : ∀ i k g, lvAt T i = .fn k g → L i = true → L k = true ∧ vs i = g (vs k)
theorem grown_setCellQ (w : World) (b i : Nat) (v : Value) : w.grownBy (w.setCell ⟨b, i, none⟩ v) (some b) :=
  ⟨rfl, rfl, rfl, by simp [World.setCell], fun k _ hk => Below.heap_setCell _ _ _ _ (fun e => hk (by rw [e]))⟩
theorem grown_setCellsQ (b : Nat) : ∀ (vs : List Value) (o : Nat) (w : World), w.grownBy (w.setCells b o vs) (some b)
  | [], _, _ => ⟨rfl, rfl, rfl, Nat.le_refl _, fun _ _ _ => rfl⟩
  | v :: r, o, w => by
    have h := grown_setCellQ w b o v
    have k := grown_setCellsQ b r (o + 1) (w.setCell ⟨b, o, none⟩ v)
    rw [World.setCells]
    exact ⟨k.os.trans h.os, k.tape.trans h.tape, k.output.trans h.output, Nat.le_trans h.size k.size, fun i hi hr => (k.block i (Nat.lt_of_lt_of_le hi h.size) hr).trans (h.block i hi hr)⟩
def lset {α : Type} (L : Nat → α) (i : Nat) (x : α) : Nat → α := fun j => if j = i then x else L j
theorem lset_at {α : Type} (L : Nat → α) (i : Nat) (x : α) : lset L i x i = x := if_pos rfl
theorem lset_ne {α : Type} {L : Nat → α} {i j : Nat} {x : α} (h : j ≠ i) : lset L i x j = L j := if_neg h
theorem live_lset {T : List Lv} {L : Nat → Bool} {i k : Nat} (hk : k ≠ i) (h : live T (lset L i true) k = true) : live T L k = true ∧ ∀ R z, lvAt T k = .od R z → z ≠ i := by
  have h1 := live_on h
  rw [lset_ne hk] at h1
  cases e : lvAt T k with
  | od R z =>
    unfold live at h ⊢
    rw [e] at h ⊢
    simp only [Bool.and_eq_true, Bool.not_eq_true'] at h ⊢
    have hz : z ≠ i := fun e' => by
      rw [e', lset_at] at h
      cases h.2
    refine ⟨⟨h1, by rw [← h.2, lset_ne hz]⟩, fun R' z' e' => ?_⟩
    cases e'
    exact hz
  | _ => exact ⟨live_of h1 fun _ _ e' => (by rw [e] at e'; cases e'), fun _ _ e' => by cases e'⟩
theorem free_ne {T : List Lv} {i : Nat} (h : Lv.free T i = true) {k : Nat} {A B : Array Value} {t : TypeId} {q : Nat} (hk : lvAt T k = .mk A B t q) : q ≠ i := by
  have h1 := List.all_eq_true.1 h (lvAt T k) (by
    unfold lvAt at hk ⊢
    rw [List.getD_eq_getElem?_getD] at hk ⊢
    cases e : T[k]? with
    | none => rw [e] at hk; cases hk
    | some x => exact List.mem_of_getElem? e)
  rw [hk] at h1
  simpa using h1
section
variable {P : Program} {ops : Array Oper} {Q : Exit → Act → World → Prop} {a0 : Act} {l : (Nat → Bool) → Kl} {w0 : World} {T : List Lv} {i : Nat} {o : Oper}
theorem made_mk {i : Nat} {A B : Array Value} {t : TypeId} {q : Nat} (h : lvAt T i = .mk A B t q) : (lvAt T i).made = true := by rw [h]; rfl
theorem made_bs {i : Nat} {ps : List (Nat ⊕ Value)} {t : TypeId} (h : lvAt T i = .bs ps t) : (lvAt T i).made = true := by rw [h]; rfl
theorem made_od {i z : Nat} {R : Rel} (h : lvAt T i = .od R z) : (lvAt T i).made = true := by rw [h]; rfl
theorem made_ow {i : Nat} {R : Rel} (h : lvAt T i = .ow R) : (lvAt T i).made = true := by rw [h]; rfl
theorem res_lset {vs : Nat → Value} {v : Value} {ps : List (Nat ⊕ Value)} (h : ∀ k, Sum.inl k ∈ ps → k ≠ i) : ps.map (res (lset vs i v)) = ps.map (res vs) :=
  List.map_congr_left fun x hx => by
    cases x with
    | inl k => exact lset_ne (h k hx)
    | inr v => rfl
/-- The step of an operation: the blocks that were made stay as they were, but for the one that is written. -/
theorem RJ.next0 {L : Nat → Bool} {vs : Nat → Value} {w w' : World} {v : Value} (h : RJ l w0 T L vs w) (hn : L i = false) (hk : Kp (l (lset L i true)) w0 w') (hsz : w.heap.size ≤ w'.heap.size)
    (hnm : ∀ g, (∀ p ∈ l L, p.1 ≠ g) → ∀ p ∈ l (lset L i true), p.1 ≠ g)
    (hst : ∀ k, (lvAt T k).made = true → live T L k = true → (∀ A B t q, lvAt T k = .mk A B t q → q ≠ i) → (∀ R z, lvAt T k = .od R z → z ≠ i) → ∀ g ∈ blks (vs k), w'.heap[g]? = w.heap[g]? ∨ (∃ ps t, lvAt T k = .bs ps t) ∧ ∀ A t, RowAt w g A t → RowAt w' g A t)
    (hfl : ∀ k A B t, lvAt T k = .mk A B t i → L k = true → k ≠ i → ∃ g, vs k = .pointer (some ⟨g, 0, none⟩) ∧ Own w' g B t)
    (hfr : (lvAt T i).made = true → ∀ g ∈ blks v, w0.heap.size ≤ g ∧ g < w'.heap.size ∧ ∀ p ∈ l (lset L i true), p.1 ≠ g)
    (hap : (lvAt T i).made = true → ∀ k, (lvAt T k).made = true → k ≠ i → live T (lset L i true) k = true → ∀ g ∈ blks (vs k), g ∉ blks v)
    (hmk : ∀ A B t q, lvAt T i = .mk A B t q → ∃ g, v = .pointer (some ⟨g, 0, none⟩) ∧ Own w' g (if lset L i true q = true then B else A) t)
    (hbs : ∀ ps t, lvAt T i = .bs ps t → (∀ k, Sum.inl k ∈ ps → L k = true) ∧ ∃ g, v = .slice (some ⟨g, 0, none⟩) ps.length ps.length ∧ RowAt w' g (ps.map (res vs)).toArray t)
    (how : ∀ R, lvAt T i = .ow R → R.r w' v) (has : ∀ k g, lvAt T i = .fn k g → L k = true ∧ v = g (vs k)) (hod : ∀ R z, lvAt T i = .od R z → R.r w' v) : RJ l w0 T (lset L i true) (lset vs i v) w' := by
  refine ⟨hk, fun k hm hL g hg => ?_, fun k j hmk2 hmj hne h1 h2 g hg => ?_, fun k A B t q hT hL => ?_, fun k ps t hT hL => ?_, fun k R hT hL => ?_, fun k R z hT hL => ?_, fun k j gk hT hL => ?_⟩
  · by_cases hki : k = i
    · subst hki
      rw [lset_at] at hg
      exact hfr hm g hg
    · have hL' := (live_lset hki hL).1
      rw [lset_ne hki] at hg
      obtain ⟨h1, h2, h3⟩ := h.fr k hm hL' g hg
      exact ⟨h1, Nat.lt_of_lt_of_le h2 hsz, hnm g h3⟩
  · by_cases hki : k = i
    · subst hki
      rw [lset_at] at hg
      rw [lset_ne (Ne.symm hne)]
      exact fun hj => hap hmk2 j hmj (Ne.symm hne) h2 g hj hg
    · rw [lset_ne hki] at hg
      by_cases hji : j = i
      · subst hji
        rw [lset_at]
        exact hap hmj k hmk2 hki h1 g hg
      · rw [lset_ne hji]
        exact h.ap k j hmk2 hmj hne (live_lset hki h1).1 (live_lset hji h2).1 g hg
  · by_cases hki : k = i
    · subst hki
      rw [lset_at]
      exact hmk A B t q hT
    · rw [lset_ne hki] at hL ⊢
      by_cases hqi : q = i
      · subst hqi
        rw [lset_at]
        exact hfl k A B t hT hL hki
      · rw [lset_ne hqi]
        obtain ⟨g, h1, h2⟩ := h.bl k A B t q hT hL
        refine ⟨g, h1, ?_⟩
        unfold Own
        rw [(hst k (made_mk hT) (live_mk hT hL) (fun A' B' t' q' e => by rw [hT] at e; cases e; exact hqi) (fun _ _ e => by rw [hT] at e; cases e) g (by rw [h1]; exact .head _)).resolve_right (fun ⟨⟨_, _, e⟩, _⟩ => by rw [hT] at e; cases e)]
        exact h2
  · by_cases hki : k = i
    · subst hki
      obtain ⟨h1, g, h2, h3⟩ := hbs ps t hT
      have h4 : ∀ j, Sum.inl j ∈ ps → j ≠ k := fun j hj e => by
        have := h1 j hj
        rw [e, hn] at this
        cases this
      refine ⟨fun j hj => by rw [lset_ne (h4 j hj)]; exact h1 j hj, g, by rw [lset_at]; exact h2, ?_⟩
      rw [res_lset h4]
      exact h3
    · rw [lset_ne hki] at hL ⊢
      obtain ⟨h1, g, h2, h3⟩ := h.bs k ps t hT hL
      have h4 : ∀ j, Sum.inl j ∈ ps → j ≠ i := fun j hj e => by
        have := h1 j hj
        rw [e, hn] at this
        cases this
      refine ⟨fun j hj => by rw [lset_ne (h4 j hj)]; exact h1 j hj, g, h2, ?_⟩
      rw [res_lset h4]
      rcases hst k (made_bs hT) (live_bs hT hL) (fun _ _ _ _ e => by rw [hT] at e; cases e) (fun _ _ e => by rw [hT] at e; cases e) g (by rw [h2]; exact .head _) with h5 | ⟨-, h5⟩
      · obtain ⟨fr, h3⟩ := h3
        exact ⟨fr, by rw [h5]; exact h3⟩
      · exact h5 _ _ h3
  · by_cases hki : k = i
    · subst hki
      rw [lset_at]
      exact how R hT
    · rw [lset_ne hki] at hL ⊢
      exact R.loc w w' _ (fun g hg => (hst k (made_ow hT) (live_ow hT hL) (fun _ _ _ _ e => by rw [hT] at e; cases e) (fun _ _ e => by rw [hT] at e; cases e) g hg).resolve_right (fun ⟨⟨_, _, e⟩, _⟩ => by rw [hT] at e; cases e)) (h.ow k R hT hL)
  · by_cases hki : k = i
    · subst hki
      rw [lset_at]
      exact hod R z hT
    · obtain ⟨hL', hz⟩ := live_lset hki hL
      rw [lset_ne hki]
      exact R.loc w w' _ (fun g hg => (hst k (made_od hT) hL' (fun _ _ _ _ e => by rw [hT] at e; cases e) hz g hg).resolve_right (fun ⟨⟨_, _, e⟩, _⟩ => by rw [hT] at e; cases e)) (h.od k R z hT hL')
  · have key : ∀ j, L j = true → j ≠ i := fun j hj e => by
      rw [e, hn] at hj
      cases hj
    by_cases hki : k = i
    · subst hki
      obtain ⟨h1, h2⟩ := has j gk hT
      rw [lset_at, lset_ne (key j h1), lset_ne (key j h1)]
      exact ⟨h1, h2⟩
    · rw [lset_ne hki] at hL ⊢
      obtain ⟨h1, h2⟩ := h.al k j gk hT hL
      rw [lset_ne (key j h1), lset_ne (key j h1)]
      exact ⟨h1, h2⟩
theorem RJ.next {L : Nat → Bool} {vs : Nat → Value} {w w' : World} {v : Value} (h : RJ l w0 T L vs w) (hn : L i = false) (hk : Kp (l (lset L i true)) w0 w') (hsz : w.heap.size ≤ w'.heap.size)
    (hnm : ∀ g, (∀ p ∈ l L, p.1 ≠ g) → ∀ p ∈ l (lset L i true), p.1 ≠ g)
    (hst : ∀ k, (lvAt T k).made = true → live T L k = true → (∀ A B t q, lvAt T k = .mk A B t q → q ≠ i) → ∀ g ∈ blks (vs k), w'.heap[g]? = w.heap[g]? ∨ (∃ ps t, lvAt T k = .bs ps t) ∧ ∀ A t, RowAt w g A t → RowAt w' g A t)
    (hfl : ∀ k A B t, lvAt T k = .mk A B t i → L k = true → k ≠ i → ∃ g, vs k = .pointer (some ⟨g, 0, none⟩) ∧ Own w' g B t)
    (hfr : (lvAt T i).made = true → ∀ g ∈ blks v, w.heap.size ≤ g ∧ g < w'.heap.size ∧ ∀ p ∈ l (lset L i true), p.1 ≠ g)
    (hmk : ∀ A B t q, lvAt T i = .mk A B t q → ∃ g, v = .pointer (some ⟨g, 0, none⟩) ∧ Own w' g (if lset L i true q = true then B else A) t)
    (hbs : ∀ ps t, lvAt T i = .bs ps t → (∀ k, Sum.inl k ∈ ps → L k = true) ∧ ∃ g, v = .slice (some ⟨g, 0, none⟩) ps.length ps.length ∧ RowAt w' g (ps.map (res vs)).toArray t)
    (how : ∀ R, lvAt T i = .ow R → R.r w' v) (has : ∀ k g, lvAt T i = .fn k g → L k = true ∧ v = g (vs k)) (hod : ∀ R z, lvAt T i = .od R z → R.r w' v) : RJ l w0 T (lset L i true) (lset vs i v) w' :=
  h.next0 hn hk hsz hnm (fun k hm hl hq _ => hst k hm hl hq) hfl (fun hm g hg => ⟨Nat.le_trans h.kp.2.size (hfr hm g hg).1, (hfr hm g hg).2⟩) (fun hm k hk hki hl g hg hv => by
    have := (h.fr k hk (live_lset hki hl).1 g hg).2.1
    have := (hfr hm g hv).1
    omega) hmk hbs how has hod
def Lv.bare : Lv → Bool
  | .v _ => true
  | .p _ => true
  | _ => false
theorem Lv.bare_made {x : Lv} (h : x.bare = true) : x.made = false := by cases x <;> first | rfl | cases h
/-- An operation that makes no block of the table and writes none. -/
theorem RJ.keep {L : Nat → Bool} {vs : Nat → Value} {w w' : World} {v : Value} (h : RJ l w0 T L vs w) (hn : L i = false) (hf : Lv.free T i = true) (hb : (lvAt T i).bare = true) (hl : l (lset L i true) = l L) (hB : Below w.heap.size w w') : RJ l w0 T (lset L i true) (lset vs i v) w' := by
  have hm := Lv.bare_made hb
  exact h.next hn (by rw [hl]; exact h.kp.below hB) hB.size (fun g hg => by rw [hl]; exact hg) (fun k hk hL _ g hg => .inl (hB.block g (h.fr k hk hL g hg).2.1)) (fun k A B t hT _ _ => absurd rfl (free_ne hf hT))
    (fun e => by rw [hm] at e; cases e) (fun _ _ _ _ e => by rw [e] at hm; cases hm) (fun _ _ e => by rw [e] at hm; cases hm) (fun _ e => by rw [e] at hm; cases hm) (fun _ _ e => by rw [e] at hb; cases hb) (fun _ _ e => by rw [e] at hb; cases hb)
/-- An operation that makes something new, the rest staying. -/
theorem RJ.new {L : Nat → Bool} {vs : Nat → Value} {w w' : World} {v : Value} (h : RJ l w0 T L vs w) (hn : L i = false) (hf : Lv.free T i = true) (hl : l (lset L i true) = l L) (hB : Below w.heap.size w w') (hfr : ∀ g ∈ blks v, w.heap.size ≤ g ∧ g < w'.heap.size)
    (hmk : ∀ A B t q, lvAt T i = .mk A B t q → (if L q = true then B else A) = A ∧ ∃ g, v = .pointer (some ⟨g, 0, none⟩) ∧ Own w' g A t)
    (hbs : ∀ ps t, lvAt T i = .bs ps t → (∀ k, Sum.inl k ∈ ps → L k = true) ∧ ∃ g, v = .slice (some ⟨g, 0, none⟩) ps.length ps.length ∧ RowAt w' g (ps.map (res vs)).toArray t)
    (how : ∀ R, lvAt T i = .ow R → R.r w' v) (has : ∀ k g, lvAt T i ≠ .fn k g) (hod : ∀ R z, lvAt T i = .od R z → R.r w' v) : RJ l w0 T (lset L i true) (lset vs i v) w' :=
  h.next hn (by rw [hl]; exact h.kp.below hB) hB.size (fun g hg => by rw [hl]; exact hg) (fun k hk hL _ g hg => .inl (hB.block g (h.fr k hk hL g hg).2.1)) (fun k A B t hT _ _ => absurd rfl (free_ne hf hT))
    (fun _ g hg => ⟨(hfr g hg).1, (hfr g hg).2, fun p hp => by
      rw [hl] at hp
      exact Nat.ne_of_lt (Nat.lt_of_lt_of_le (h.kp.1 p hp).lt (hfr g hg).1)⟩)
    (fun A B t q e => by
      rw [lset_ne (free_ne hf e), (hmk A B t q e).1]
      exact (hmk A B t q e).2) hbs how (fun k g e => absurd e (has k g)) hod
/-- A block that was made is written. -/
theorem RJ.fill {L : Nat → Bool} {vs : Nat → Value} {w : World} {v : Value} {k g : Nat} {A B : Array Value} {t : TypeId} (h : RJ l w0 T L vs w) (hn : L i = false) (hk : lvAt T k = .mk A B t i) (hkL : L k = true) (hu : ∀ j A B t, lvAt T j = .mk A B t i → j = k) (hb : (lvAt T i).bare = true) (hl : l (lset L i true) = l L)
    (hg : vs k = .pointer (some ⟨g, 0, none⟩)) (hs : B.size = A.size) : RJ l w0 T (lset L i true) (lset vs i v) (w.setCells g 0 B.toList) := by
  have hm := Lv.bare_made hb
  obtain ⟨g', h1, h4⟩ := h.bl k A B t i hk hkL
  obtain rfl := ptr_eq (hg.symm.trans h1)
  rw [hn] at h4
  have hgm : g ∈ blks (vs k) := by rw [hg]; exact .head _
  obtain ⟨h2, h3, h5⟩ := h.fr k (made_mk hk) (live_mk hk hkL) g hgm
  have hgr := grown_setCellsQ g B.toList 0 w
  refine h.next hn (by rw [hl]; exact ⟨fun p hp => Own.setCells_other (h5 p hp) _ _ _ (h.kp.1 p hp), Below.setCells _ _ _ _ h2 h.kp.2⟩) hgr.size (fun g hg => by rw [hl]; exact hg) (fun j hj hL hq g1 hg1 => ?_) (fun j A' B' t' hT _ _ => ?_)
    (fun e => by rw [hm] at e; cases e) (fun _ _ _ _ e => by rw [e] at hm; cases hm) (fun _ _ e => by rw [e] at hm; cases hm) (fun _ e => by rw [e] at hm; cases hm) (fun _ _ e => by rw [e] at hb; cases hb) (fun _ _ e => by rw [e] at hb; cases hb)
  · refine .inl (hgr.block g1 (h.fr j hj hL g1 hg1).2.1 (fun e => ?_))
    have hjk : j ≠ k := fun e' => hq A B t i (by rw [e']; exact hk) rfl
    have e2 : g1 = g := Option.some.inj e
    rw [e2] at hg1
    exact h.ap j k hj (made_mk hk) hjk hL (live_mk hk hkL) g hg1 hgm
  · obtain rfl := hu j A' B' t' hT
    rw [hk] at hT
    cases hT
    exact ⟨g, hg, own_setCells h4 hs⟩
/-- The operation that this one waits for, and that leaves its value in slot s. -/
def depOf (ops : Array Oper) (af : Array Edge) (s : Nat) : Option Nat := (af.toList.find? fun e => Region.binds .any e && ((ops[e.on]?).bind (·.dst)) == some s).map (·.on)
/-- An operand's value, by what the operations leave. -/
def envOf (ops : Array Oper) (T : List Lv) (vs : Nat → Value) (a0 : Act) (af : Array Edge) : Operand → Value
  | .tmp s => match depOf ops af s with
    | some k => (lvAt T k).val (vs k)
    | none => a0.tmps.getD s undef
  | x => a0.eval x
/-- Each slot that an operation looks at was written by one that it waits for, or whatever writes it waits for this one. -/
def seesC (ops : Array Oper) : Bool := (List.range ops.size).all fun i => match ops[i]? with
  | none => true
  | some o => (match o.op with | .select _ _ => false | _ => true) && (o.looksAt ops).all fun s => (depOf ops o.after s).isSome || ops.toList.all fun o' => o'.dst != some s || o'.after.toList.any fun e => e.on == i && Region.binds .any e
/-- What is known as an operation comes up. -/
structure At (ops : Array Oper) (l : (Nat → Bool) → Kl) (w0 : World) (T : List Lv) (i : Nat) (o : Oper) (L : Nat → Bool) (vs : Nat → Value) (w : World) : Prop where
  j : RJ l w0 T L vs w
  new : L i = false
  dep : ∀ e ∈ o.after, Region.binds .any e = true → L e.on = true
  closed : ∀ (k : Nat) (ok : Oper), ops[k]? = some ok → L k = true → ∀ e ∈ ok.after, Region.binds .any e = true → L e.on = true
  fact : ∀ (k : Nat) (ok : Oper) d, ops[k]? = some ok → ok.dst = some d → L k = true → (lvAt T k).F (vs k)
/-- What an operation does, its operands by ρ. -/
def OpV (P : Program) (o : Oper) (ρ : Operand → Value) (w : World) (K : Value → World → Prop) : Prop := match (execOp ρ o).run P w with
  | .ok (.value v) w' => K v w'
  | .ok .skip w' => K undef w'
  | .ok (.enter f args) w' => Calls P f args w' fun
    | .returned v, w'' => K v w''
    | _, _ => False
  | .ok (.row row args) w' => Rows P row args w' K
  | _ => False
theorem OpV.wp {a : Act} {w : World} {K : Act → World → Prop} (h : OpV P o a.eval w fun v w' => K (a.put o.dst v) w') : o.wp P a w K Q := by
  unfold OpV at h
  unfold Oper.wp
  generalize (execOp a.eval o).run P w = r at *
  cases r with
  | ok n w' =>
    cases n <;> simp only at h <;> simp only [Oper.upon]
    case value v => exact h
    case skip => exact h
    case enter f args =>
      refine h.mono fun e w'' he => ?_
      cases e with
      | returned v => exact he
      | panicked c => exact he.elim
      | outgrown => exact he.elim
    case row row args => exact h
  | halt x w' => simp only at h
/-- One operation's step. -/
def Go1 (P : Program) (ops : Array Oper) (a0 : Act) (l : (Nat → Bool) → Kl) (w0 : World) (T : List Lv) (i : Nat) (o : Oper) : Prop :=
  ∀ Q L vs w a K, ops[i]? = some o → At ops l w0 T i o L vs w → (∀ s ∈ o.looksAt ops, a.tmps.getD s undef = envOf ops T vs a0 o.after (.tmp s)) → (∀ x, (∀ s, x ≠ .tmp s) → a.eval x = a0.eval x) →
    (∀ v w', (o.dst = none ∨ (lvAt T i).F v) → RJ l w0 T (lset L i true) (lset vs i v) w' → K (a.put o.dst v) w') → wpOp P ops Q i K a w
inductive AllGo (C : Nat → Oper → Prop) : Nat → List Oper → Prop
  | nil {i : Nat} : AllGo C i []
  | c {i : Nat} {o : Oper} {r : List Oper} (h : C i o) (t : AllGo C (i + 1) r) : AllGo C i (o :: r)
theorem AllGo.at {C : Nat → Oper → Prop} {r : List Oper} {i : Nat} (h : AllGo C i r) : ∀ (j : Nat) (o : Oper), r[j]? = some o → C (i + j) o := by
  induction h with
  | nil => exact fun j o e => by simp at e
  | @c i o r h t ih =>
    intro j o' e
    cases j with
    | zero =>
      simp only [List.getElem?_cons_zero, Option.some.injEq] at e
      subst e
      exact h
    | succ j =>
      have := ih j o' (by simpa using e)
      rw [show i + (j + 1) = i + 1 + j by omega]
      exact this
/-- The frame with what the operations left. -/
def putL (vs : Nat → Value) : Nat → List Lv → List Oper → Act → Act
  | _, _, [], a => a
  | i, x :: T, o :: r, a => putL vs (i + 1) T r (a.put o.dst (x.val (vs i)))
  | i, [], o :: r, a => putL vs (i + 1) [] r (a.put o.dst (vs i))
theorem putL_eq (vs : Nat → Value) : ∀ (r : List Oper) (i : Nat) (T : List Lv) (a : Act), (∀ (j : Nat) (o : Oper) d, r[j]? = some o → o.dst = some d → (lvAt T j).F (vs (i + j))) → putAll vs i r a = putL vs i T r a
  | [], _, _, _, _ => by simp [putAll, putL]
  | o :: r, i, [], a, h => by
    rw [putAll, putL, putL_eq vs r (i + 1) [] _ (fun j o' d e hd => by
      simp [lvAt, Lv.F])]
  | o :: r, i, x :: T, a, h => by
    rw [putAll, putL, putL_eq vs r (i + 1) T _ (fun j o' d e hd => by
      have := h (j + 1) o' d (by simpa using e) hd
      rw [show i + (j + 1) = i + 1 + j by omega] at this
      simpa [lvAt] using this)]
    cases hd : o.dst with
    | none => rfl
    | some d =>
      have := Lv.val_of (h 0 o d (by simp) hd)
      rw [Nat.add_zero] at this
      rw [show x.val (vs i) = vs i from this]
theorem wp_lv_of {G : Prop} {w : World} (n : Nat) (l : (Nat → Bool) → Kl) (T : List Lv) (hk : Kp (l fun _ => false) w0 w) (hr : Runs P ops Q a0 w G) (hp : plainC ops n = true) (hq : seesC ops = true) (hn : a0.tmps.size = n)
    (hs : AllGo (Go1 P ops a0 l w0 T) 0 ops.toList)
    (hend : ∀ vs w', RJ l w0 T (fun i => decide (i < ops.size)) vs w' → (∀ (k : Nat) (o : Oper) d, ops[k]? = some o → o.dst = some d → (lvAt T k).F (vs k)) → Q .normal (putL vs 0 T ops.toList a0) w') : G := by
  refine wp_told_of n hp hn hr (fun i v => (lvAt T i).F v) (fun L vs w => RJ l w0 T L vs w ∧ ∀ i, ops.size ≤ i → L i = false) (fun vs => ⟨⟨hk, fun _ _ h => by (cases live_on h), fun _ _ _ _ _ h => by (cases live_on h), fun _ _ _ _ _ _ h => by (cases h), fun _ _ _ _ h => by (cases h), fun _ _ _ h => by (cases h), fun _ _ _ _ h => by (cases live_on h), fun _ _ _ _ h => by (cases h)⟩, fun _ _ => rfl⟩) ?_ ?_
  · intro L vs a w i o hF hLi ho hd K hK
    have hi : i < ops.size := (Array.getElem?_eq_some_iff.1 ho).1
    have hg := hs.at i o (by simpa using ho)
    rw [Nat.zero_add] at hg
    have hsee : ∀ s ∈ o.looksAt ops, a.tmps.getD s undef = envOf ops T vs a0 o.after (.tmp s) := fun s hs => by
      have h1 := List.all_eq_true.1 hq i (List.mem_range.2 hi)
      rw [ho] at h1
      simp only [Bool.and_eq_true] at h1
      have h2 := List.all_eq_true.1 h1.2 s hs
      unfold envOf
      simp only
      cases hdep : depOf ops o.after s with
      | none =>
        rw [hdep] at h2
        simp only [Option.isSome_none, Bool.false_or] at h2
        exact slott hF i hLi s h2
      | some k =>
        unfold depOf at hdep
        rw [Option.map_eq_some_iff] at hdep
        obtain ⟨e, he, hek⟩ := hdep
        have he1 := List.mem_of_find?_eq_some he
        have he2 := List.find?_some he
        simp only [Bool.and_eq_true, beq_iff_eq] at he2
        have hLe := hd e (by simpa using he1) he2.1
        rw [Option.bind_eq_some_iff] at he2
        obtain ⟨hb, ok, hok, hokd⟩ := he2
        rw [hek] at hok hLe
        obtain ⟨h3, h4⟩ := hF.fact k ok s hok hokd hLe
        rw [h3]
        exact (Lv.val_of h4).symm
    refine hg Q L vs w a K ho ⟨hF.j.1, hLi, hd, hF.closed, fun k ok d hk hkd hL => (hF.fact k ok d hk hkd hL).2⟩ hsee (fun x hx => ?_) fun v w' hv hJ => hK v w' hv ⟨hJ, fun j hj => ?_⟩
    · cases x with
      | tmp s => exact absurd rfl (hx s)
      | _ => rfl
    · have hji : j ≠ i := by omega
      simp only [hji, if_false]
      exact hF.j.2 j hj
  · intro L vs w' hL hJ hf
    have e : L = fun i => decide (i < ops.size) := by
      funext i
      by_cases hi : i < ops.size
      · rw [hL i hi, decide_eq_true hi]
      · rw [hJ.2 i (by omega), decide_eq_false hi]
    rw [e] at hJ
    rw [putL_eq vs ops.toList 0 T a0 (fun j o d hj hd => by
      rw [Nat.zero_add]
      exact hf j o d (by simpa using hj) hd)]
    exact hend vs w' hJ.1 hf
theorem wp_region_lv {id : Nat} {w : World} (n : Nat) (l : (Nat → Bool) → Kl) (T : List Lv) (hk : Kp (l fun _ => false) w0 w) (hm : P.follows .mixedOrders = true) (hp : plainC ops n = true) (hq : seesC ops = true) (hn : a0.tmps.size = n)
    (hs : AllGo (Go1 P ops a0 l w0 T) 0 ops.toList)
    (hend : ∀ vs w', RJ l w0 T (fun i => decide (i < ops.size)) vs w' → (∀ (k : Nat) (o : Oper) d, ops[k]? = some o → o.dst = some d → (lvAt T k).F (vs k)) → Q .normal (putL vs 0 T ops.toList a0) w') : (Code.region id ops true).wp P Q a0 w := wp_lv_of n l T hk.drew (runs_draw hm) hp hq hn hs hend
/-- The same for a region whose operations come up in a row. -/
theorem wp_region_ls {id : Nat} {w : World} (n : Nat) (l : (Nat → Bool) → Kl) (T : List Lv) (hk : Kp (l fun _ => false) w0 w) (hp : plainC ops n = true) (hq : seesC ops = true) (hn : a0.tmps.size = n)
    (hs : AllGo (Go1 P ops a0 l w0 T) 0 ops.toList)
    (hend : ∀ vs w', RJ l w0 T (fun i => decide (i < ops.size)) vs w' → (∀ (k : Nat) (o : Oper) d, ops[k]? = some o → o.dst = some d → (lvAt T k).F (vs k)) → Q .normal (putL vs 0 T ops.toList a0) w') : (Code.region id ops false).wp P Q a0 w := wp_lv_of n l T hk runs_row hp hq hn hs hend
/-- Is an operation wanted, by what the table tells of its guard? -/
def wantC (ops : Array Oper) (T : List Lv) (o : Oper) : Option Bool := match o.guard with
  | none => some true
  | some (g, b) => match lvAt T g with
    | .v (.bool b') => if ((ops[g]?).bind (·.dst)).any fun d => depOf ops o.after d == some g then some (b' == b) else none
    | _ => none
theorem wantC_spec {vs : Nat → Value} {a : Act} {b : Bool} (h : wantC ops T o = some b) (hs : ∀ s ∈ o.looksAt ops, a.tmps.getD s undef = envOf ops T vs a0 o.after (.tmp s)) : Region.wanted o (yielded ops a.tmps) = b := by
  unfold wantC at h
  cases hg : o.guard with
  | none =>
    rw [hg] at h
    simp only [Option.some.injEq] at h
    rw [← h]
    exact wanted_free hg
  | some gb =>
    obtain ⟨g, b0⟩ := gb
    rw [hg] at h
    simp only at h
    split at h
    · rename_i b' hT
      split at h
      · rename_i hd
        simp only [Option.some.injEq] at h
        cases hgd : (ops[g]?).bind (·.dst) with
        | none => rw [hgd] at hd; cases hd
        | some d =>
          rw [hgd] at hd
          simp only [Option.any_some, beq_iff_eq] at hd
          obtain ⟨og, hog, hogd⟩ := Option.bind_eq_some_iff.1 hgd
          have h1 := hs d (by
            unfold Oper.looksAt
            rw [hg]
            simp [hog, hogd])
          unfold envOf at h1
          simp only [hd, hT] at h1
          have h2 : a.tmps.getD d undef = .bool b' := h1
          subst h
          cases hbb : b' == b0 with
          | true =>
            have : b' = b0 := by simpa using hbb
            subst this
            exact wanted_so hg hog hogd h2
          | false => exact wanted_not hg hog hogd h2 (fun e => by simp [e] at hbb)
      · cases h
    · cases h
theorem OpV.mono {ρ : Operand → Value} {w : World} {K K' : Value → World → Prop} (hK : ∀ v w', K v w' → K' v w') (h : OpV P o ρ w K) : OpV P o ρ w K' := by
  unfold OpV at *
  generalize (execOp ρ o).run P w = r at *
  cases r with
  | ok n w' =>
    cases n <;> simp only at h <;> simp only
    case value v => exact hK _ _ h
    case skip => exact hK _ _ h
    case enter f args =>
      refine h.mono fun e w'' he => ?_
      cases e with
      | returned v => exact hK _ _ he
      | panicked c => exact he.elim
      | outgrown => exact he.elim
    case row row args => exact h.mono hK
  | halt x w' => simp only at h
theorem Go1.of (hw : wantC ops T o = some true) (h : ∀ L vs w (a : Act) K, ops[i]? = some o → At ops l w0 T i o L vs w → (∀ x ∈ o.op.operands, a.eval x = envOf ops T vs a0 o.after x) →
    (∀ v w', (o.dst = none ∨ (lvAt T i).F v) → RJ l w0 T (lset L i true) (lset vs i v) w' → K v w') → OpV P o a.eval w K) : Go1 P ops a0 l w0 T i o := by
  intro Q L vs w a K ho hA hs hx hK
  refine step_do ho (wantC_spec hw hs) (OpV.wp (h L vs w a (fun v w' => K (a.put o.dst v) w') ho hA (fun x hm => ?_) hK))
  cases x with
  | tmp s => exact hs s (List.mem_append_left _ (List.mem_filterMap.2 ⟨.tmp s, by simpa using hm, rfl⟩))
  | _ => exact hx _ (fun s e => by cases e)
def notMk (x : Lv) : Bool := x.bare
theorem notMk_spec {x : Lv} (h : notMk x = true) : x.bare = true := h
/-- An operation that makes no block and writes none. -/
theorem Go1.keep (h : ∀ L vs w (a : Act), ops[i]? = some o → At ops l w0 T i o L vs w → (∀ x ∈ o.op.operands, a.eval x = envOf ops T vs a0 o.after x) → OpV P o a.eval w fun v w' => (o.dst = none ∨ (lvAt T i).F v) ∧ Below w.heap.size w w')
    (hw : wantC ops T o = some true) (ht : notMk (lvAt T i) = true) (hf : Lv.free T i = true) (hl : ∀ L, l (lset L i true) = l L) : Go1 P ops a0 l w0 T i o :=
  Go1.of hw fun L vs w a _ ho hA he hK => (h L vs w a ho hA he).mono fun v w' ⟨h1, h2⟩ => hK v w' h1 (hA.j.keep hA.new hf (notMk_spec ht) (hl L) h2)
theorem Go1.ps (hw : wantC ops T o = some false := by rfl) (ht : lvAt T i = .v undef := by rfl) (hf : Lv.free T i = true := by rfl) (hl : ∀ L, l (lset L i true) = l L := by intro _; rfl) : Go1 P ops a0 l w0 T i o := by
  intro Q L vs w a K ho hA hs hx hK
  exact step_pass ho (wantC_spec hw hs) (hK undef w (.inr (by rw [ht]; rfl)) (hA.j.keep hA.new hf (by rw [ht]; rfl) (hl L) (Below.refl _ _)))
section
variable {d : Option Tmp} {τ : TypeId} {p : String} {af : Array Edge} {g : Option (Nat × Bool)}
/-- A whole block is loaded. -/
theorem Go1.ld {ty : TypeId} {x : Operand} {D : TypeDesc} (b : Nat) {A : Array Value} {t : TypeId} (hm : ∀ L, (b, A, t) ∈ l L) (hu : P.underlying ty = some D) (hd : D.isRow = true) (hi : (P.info? ty).map (·.size) = some A.size)
    (hx : ∀ vs, envOf ops T vs a0 af x = .pointer (some ⟨b, 0, none⟩) := by intro _; kernel_rfl) (ht : lvAt T i = .v (.agg A) := by rfl)
    (hw : wantC ops T ⟨d, .load ty x, τ, p, af, g⟩ = some true := by rfl) (hf : Lv.free T i = true := by rfl) (hl : ∀ L, l (lset L i true) = l L := by intro _; rfl) : Go1 P ops a0 l w0 T i ⟨d, .load ty x, τ, p, af, g⟩ :=
  Go1.keep (fun L vs w a _ hA he => by
    have hx' := (he x (by simp [Op.operands])).trans (hx vs)
    have hc := hA.j.kp.at b A t (hm L)
    have := run_loadVar_mid w b 0 ty A.toList D hc.range hu hd (by simpa using hi)
    unfold OpV execOp
    simp only [hx', Instr.loadAt, Instr.sureAddr, Sem.run_bind, Sem.run_pure, Result.andThen_ok, this]
    exact ⟨.inr (by rw [ht]; rfl), Below.refl _ _⟩) hw (by rw [ht]; rfl) hf hl
def isFnB (P : Program) (f : FuncId) : Bool := match P.funcs[f]? with
  | some fn => fn.body.isSome && !(fn.name == "runtime.NumGoroutine")
  | none => false
theorem run_fn {f : FuncId} (h : isFnB P f = true) (args : Array Value) (w : World) : (callFunc f args).run P w = .ok (.enter f args) w := by
  unfold isFnB at h
  cases hf : P.funcs[f]? with
  | none => rw [hf] at h; cases h
  | some fn =>
    rw [hf] at h
    simp only [Bool.and_eq_true, Bool.not_eq_true', Option.isSome_iff_exists] at h
    obtain ⟨⟨c, hc⟩, hn⟩ := h
    have h1 : fn.name ≠ "runtime.NumGoroutine" := by simpa using hn
    simp [callFunc, hf, h1, hc]
/-- A call, by its contract. -/
theorem Go1.cl {f : FuncId} {xs : Array Operand} {ats : Array TypeId} {args : Array Value} (h : ∀ L w, Kp (l L) w0 w → Calls P f args w fun e w' => ∃ v, e = .returned v ∧ (lvAt T i).F v ∧ Below w.heap.size w w')
    (hfn : isFnB P f = true) (hx : ∀ vs, (#[] ++ xs.map (envOf ops T vs a0 af) ++ #[]) = args)
    (ht : notMk (lvAt T i) = true) (hw : wantC ops T ⟨d, .call ⟨.value (.func f), xs, ats⟩, τ, p, af, g⟩ = some true) (hf : Lv.free T i = true) (hl : ∀ L, l (lset L i true) = l L) : Go1 P ops a0 l w0 T i ⟨d, .call ⟨.value (.func f), xs, ats⟩, τ, p, af, g⟩ :=
  Go1.keep (fun L vs w a _ hA he => by
    have e1 : xs.map a.eval = xs.map (envOf ops T vs a0 af) := Array.map_congr_left fun x hm => he x (by simp [Op.operands, Call.operands, hm])
    have hc := h L w hA.j.kp
    unfold OpV
    rw [execOp_call_go, e1, hx vs, run_fn hfn]
    simp only
    refine hc.mono ?_
    rintro e w' ⟨v, rfl, h1, h2⟩
    exact ⟨.inr h1, h2⟩) hw ht hf hl
theorem Go1.ca {f : FuncId} {xs : Array Operand} {ats : Array TypeId} {args : Array Value} {v : Value} (h : ∀ L w, Kp (l L) w0 w → Calls P f args w fun e w' => e = .returned v ∧ Below w.heap.size w w')
    (hfn : isFnB P f = true := by kernel_rfl) (hx : ∀ vs, (#[] ++ xs.map (envOf ops T vs a0 af) ++ #[]) = args := by intro _; kernel_rfl)
    (ht : lvAt T i = .v v := by rfl) (hw : wantC ops T ⟨d, .call ⟨.value (.func f), xs, ats⟩, τ, p, af, g⟩ = some true := by rfl) (hf : Lv.free T i = true := by rfl) (hl : ∀ L, l (lset L i true) = l L := by intro _; rfl) : Go1 P ops a0 l w0 T i ⟨d, .call ⟨.value (.func f), xs, ats⟩, τ, p, af, g⟩ :=
  Go1.cl (fun L w hk => (h L w hk).mono fun e w' ⟨h1, h2⟩ => ⟨v, h1, by rw [ht]; rfl, h2⟩) hfn hx (by rw [ht]; rfl) hw hf hl
def slotsIn (op : Op) : List Nat := op.operands.toList.filterMap fun
  | .tmp s => some s
  | _ => none
theorem slotsIn_mem {op : Op} {s : Nat} (h : (slotsIn op).contains s = true) : Operand.tmp s ∈ op.operands := by
  unfold slotsIn at h
  rw [List.contains_iff_mem, List.mem_filterMap] at h
  obtain ⟨x, h1, h2⟩ := h
  cases x with
  | tmp s' =>
    simp only [Option.some.injEq] at h2
    subst h2
    simpa using h1
  | _ => cases h2
/-- An operation that looks at no memory: of one slot, two, three. -/
theorem Go1.p1 {op : Op} {v : Value} (s : Nat) (u : Value) (ht : lvAt T i = .v v := by rfl) (hv : ∀ vs, envOf ops T vs a0 af (.tmp s) = u := by intro _; kernel_rfl)
    (h : ∀ (a : Act) (w : World), a.tmps.getD s undef = u → (execOp a.eval ⟨d, op, τ, p, af, g⟩).run P w = .ok (.value v) w := by intro a w f; have q := getq f; first | (go_simp; done) | (go_simp; first | rfl | kernel_rfl)) (hop : (slotsIn op).contains s = true := by rfl)
    (hw : wantC ops T ⟨d, op, τ, p, af, g⟩ = some true := by rfl) (hf : Lv.free T i = true := by rfl) (hl : ∀ L, l (lset L i true) = l L := by intro _; rfl) : Go1 P ops a0 l w0 T i ⟨d, op, τ, p, af, g⟩ :=
  Go1.keep (fun L vs w a _ hA he => by
    unfold OpV
    rw [h a w ((he _ (slotsIn_mem hop)).trans (hv vs))]
    exact ⟨.inr (by rw [ht]; rfl), Below.refl _ _⟩) hw (by rw [ht]; rfl) hf hl
theorem Go1.p2 {op : Op} {v : Value} (s : Nat) (u : Value) (s' : Nat) (u' : Value) (ht : lvAt T i = .v v := by rfl) (hv : ∀ vs, envOf ops T vs a0 af (.tmp s) = u := by intro _; kernel_rfl) (hv' : ∀ vs, envOf ops T vs a0 af (.tmp s') = u' := by intro _; kernel_rfl)
    (h : ∀ (a : Act) (w : World), a.tmps.getD s undef = u → a.tmps.getD s' undef = u' → (execOp a.eval ⟨d, op, τ, p, af, g⟩).run P w = .ok (.value v) w := by intro a w f f'; have q := getq f; have q' := getq f'; first | (go_simp; done) | (go_simp; first | rfl | kernel_rfl)) (hop : (slotsIn op).contains s = true := by rfl) (hop' : (slotsIn op).contains s' = true := by rfl)
    (hw : wantC ops T ⟨d, op, τ, p, af, g⟩ = some true := by rfl) (hf : Lv.free T i = true := by rfl) (hl : ∀ L, l (lset L i true) = l L := by intro _; rfl) : Go1 P ops a0 l w0 T i ⟨d, op, τ, p, af, g⟩ :=
  Go1.keep (fun L vs w a _ hA he => by
    unfold OpV
    rw [h a w ((he _ (slotsIn_mem hop)).trans (hv vs)) ((he _ (slotsIn_mem hop')).trans (hv' vs))]
    exact ⟨.inr (by rw [ht]; rfl), Below.refl _ _⟩) hw (by rw [ht]; rfl) hf hl
theorem Go1.p3 {op : Op} {v : Value} (s : Nat) (u : Value) (s' : Nat) (u' : Value) (s2 : Nat) (u2 : Value) (ht : lvAt T i = .v v := by rfl) (hv : ∀ vs, envOf ops T vs a0 af (.tmp s) = u := by intro _; kernel_rfl) (hv' : ∀ vs, envOf ops T vs a0 af (.tmp s') = u' := by intro _; kernel_rfl) (hv2 : ∀ vs, envOf ops T vs a0 af (.tmp s2) = u2 := by intro _; kernel_rfl)
    (h : ∀ (a : Act) (w : World), a.tmps.getD s undef = u → a.tmps.getD s' undef = u' → a.tmps.getD s2 undef = u2 → (execOp a.eval ⟨d, op, τ, p, af, g⟩).run P w = .ok (.value v) w := by intro a w f f' f2; have q := getq f; have q' := getq f'; have q2 := getq f2; first | (go_simp; done) | (go_simp; first | rfl | kernel_rfl)) (hop : (slotsIn op).contains s = true := by rfl) (hop' : (slotsIn op).contains s' = true := by rfl) (hop2 : (slotsIn op).contains s2 = true := by rfl)
    (hw : wantC ops T ⟨d, op, τ, p, af, g⟩ = some true := by rfl) (hf : Lv.free T i = true := by rfl) (hl : ∀ L, l (lset L i true) = l L := by intro _; rfl) : Go1 P ops a0 l w0 T i ⟨d, op, τ, p, af, g⟩ :=
  Go1.keep (fun L vs w a _ hA he => by
    unfold OpV
    rw [h a w ((he _ (slotsIn_mem hop)).trans (hv vs)) ((he _ (slotsIn_mem hop')).trans (hv' vs)) ((he _ (slotsIn_mem hop2)).trans (hv2 vs))]
    exact ⟨.inr (by rw [ht]; rfl), Below.refl _ _⟩) hw (by rw [ht]; rfl) hf hl
theorem Go1.p0 {op : Op} {v : Value} (ht : lvAt T i = .v v := by rfl)
    (h : ∀ (a : Act) (w : World), (execOp a.eval ⟨d, op, τ, p, af, g⟩).run P w = .ok (.value v) w := by intro a w; first | (go_simp; done) | (go_simp; first | rfl | kernel_rfl))
    (hw : wantC ops T ⟨d, op, τ, p, af, g⟩ = some true := by rfl) (hf : Lv.free T i = true := by rfl) (hl : ∀ L, l (lset L i true) = l L := by intro _; rfl) : Go1 P ops a0 l w0 T i ⟨d, op, τ, p, af, g⟩ :=
  Go1.keep (fun L vs w a _ hA he => by
    unfold OpV
    rw [h a w]
    exact ⟨.inr (by rw [ht]; rfl), Below.refl _ _⟩) hw (by rw [ht]; rfl) hf hl
/-- A block of its own is made. -/
def waitsB (ops : Array Oper) (q i : Nat) : Bool := (ops[q]?).any fun o => o.after.toList.any fun e => e.on == i && Region.binds .any e
theorem At.not {L : Nat → Bool} {vs : Nat → Value} {w : World} {q : Nat} (h : At ops l w0 T i o L vs w) (hq : waitsB ops q i = true) : L q = false := by
  unfold waitsB at hq
  cases hk : L q with
  | false => rfl
  | true =>
    cases ho : ops[q]? with
    | none => rw [ho] at hq; cases hq
    | some oq =>
      rw [ho, Option.any_some, List.any_eq_true] at hq
      obtain ⟨e, he, h1⟩ := hq
      simp only [Bool.and_eq_true, beq_iff_eq] at h1
      have := h.closed q oq ho hk e (by simpa using he) h1.2
      rw [h1.1, h.new] at this
      cases this
theorem Go1.mk0 {ty : TypeId} {A B : Array Value} {q : Nat} (ht : lvAt T i = .mk A B ty q) (hz : ∀ w, (zeroValue ty).run P w = .ok (.agg A) w) (hq : A = B ∨ waitsB ops q i = true)
    (hw : wantC ops T ⟨d, .alloc ty, τ, p, af, g⟩ = some true) (hf : Lv.free T i = true) (hl : ∀ L, l (lset L i true) = l L) : Go1 P ops a0 l w0 T i ⟨d, .alloc ty, τ, p, af, g⟩ :=
  Go1.of hw fun L vs w a K ho hA he hK => by
    unfold OpV
    go_simp
    exact hK _ _ (.inr (by rw [ht]; exact ⟨_, rfl⟩)) (hA.j.new hA.new hf (hl L) ((Below.refl _ _).alloc (Nat.le_refl _) _) (fun g hg => by
      obtain rfl : g = w.heap.size := by simpa [blks] using hg
      exact ⟨Nat.le_refl _, by simp⟩) (fun A' B' t' q' e => by
      rw [ht] at e
      cases e
      refine ⟨?_, _, rfl, own_new w _ _⟩
      rcases hq with rfl | hq
      · exact ite_self _
      · rw [hA.not hq]; rfl) (fun _ _ e => by rw [ht] at e; cases e) (fun _ e => by rw [ht] at e; cases e) (fun _ _ e => by rw [ht] at e; cases e) (fun _ _ e => by rw [ht] at e; cases e))
theorem Go1.al {ty : TypeId} {A B : Array Value} {q : Nat} (hz : ∀ w, (zeroValue ty).run P w = .ok (.agg A) w) (ht : lvAt T i = .mk A B ty q := by rfl) (hq : waitsB ops q i = true := by rfl)
    (hw : wantC ops T ⟨d, .alloc ty, τ, p, af, g⟩ = some true := by rfl) (hf : Lv.free T i = true := by rfl) (hl : ∀ L, l (lset L i true) = l L := by intro _; rfl) : Go1 P ops a0 l w0 T i ⟨d, .alloc ty, τ, p, af, g⟩ := Go1.mk0 ht hz (.inr hq) hw hf hl
/-- A block of its own that stays as it is made. -/
theorem Go1.an {ty : TypeId} {A : Array Value} {q : Nat} (hz : ∀ w, (zeroValue ty).run P w = .ok (.agg A) w) (ht : lvAt T i = .mk A A ty q := by rfl)
    (hw : wantC ops T ⟨d, .alloc ty, τ, p, af, g⟩ = some true := by rfl) (hf : Lv.free T i = true := by rfl) (hl : ∀ L, l (lset L i true) = l L := by intro _; rfl) : Go1 P ops a0 l w0 T i ⟨d, .alloc ty, τ, p, af, g⟩ := Go1.mk0 ht hz (.inl rfl) hw hf hl
/-- A block that was made is written. -/
def onlyB (T : List Lv) (k i : Nat) : Bool := (List.range T.length).all fun j => j == k || match lvAt T j with
  | .mk _ _ _ q => q != i
  | _ => true
theorem onlyB_spec {k : Nat} (h : onlyB T k i = true) (j : Nat) (A B : Array Value) (t : TypeId) (hj : lvAt T j = .mk A B t i) : j = k := by
  by_cases hl : j < T.length
  · have h1 := List.all_eq_true.1 h j (List.mem_range.2 hl)
    rw [hj] at h1
    simpa using h1
  · unfold lvAt at hj
    rw [List.getD_eq_getElem?_getD, List.getElem?_eq_none (by omega)] at hj
    cases hj
theorem Go1.st {ty t : TypeId} {x y : Operand} {A B : Array Value} {n : Nat} (k : Nat) (hi : (P.info? ty).map (·.size) = some n) (h1 : B.all (·.oneCell') = true) (ht : lvAt T k = .mk A B t i := by rfl) (hs : B.size = A.size := by rfl) (hn : B.size = n := by rfl) (hy : ∀ vs, envOf ops T vs a0 af y = .agg B := by intro _; kernel_rfl) (hx : ∀ vs, envOf ops T vs a0 af x = vs k := by intro _; kernel_rfl) (hdep : (af.toList.any fun e => e.on == k && Region.binds .any e) = true := by rfl)
    (hk : ((ops[k]?).bind (·.dst)).isSome = true := by rfl) (hm : notMk (lvAt T i) = true := by rfl) (hu : onlyB T k i = true := by rfl)
    (hw : wantC ops T ⟨none, .store ty x y, τ, p, af, g⟩ = some true := by rfl) (hl : ∀ L, l (lset L i true) = l L := by intro _; rfl) : Go1 P ops a0 l w0 T i ⟨none, .store ty x y, τ, p, af, g⟩ :=
  Go1.of hw fun L vs w a K ho hA he hK => by
    have hkL := dep hA.dep k hdep
    obtain ⟨d, hd⟩ := Option.isSome_iff_exists.1 hk
    obtain ⟨ok, hok, hokd⟩ := Option.bind_eq_some_iff.1 hd
    have hg := hA.fact k ok d hok hokd hkL
    rw [ht] at hg
    obtain ⟨b, hb⟩ := hg
    have hx' : a.eval x = .pointer (some ⟨b, 0, none⟩) := ((he x (by simp [Op.operands])).trans (hx vs)).trans hb
    have hy' : a.eval y = .agg B := (he y (by simp [Op.operands])).trans (hy vs)
    obtain ⟨b', hb', h4⟩ := hA.j.bl k A B t i ht hkL
    obtain rfl := ptr_eq (hb.symm.trans hb')
    rw [hA.new] at h4
    rw [← hn] at hi
    have hth : w.there b 0 B.size := h4.there 0 _ (by rw [hs, Nat.zero_add]; exact Nat.le_refl _)
    unfold OpV execOp
    simp only [hx', hy', Instr.storeAt, Instr.sureAddr, Sem.run_bind, Sem.run_pure, Result.andThen_ok, run_storeVar_mid w b 0 ty B hth hi h1]
    exact hK _ _ (.inl rfl) (hA.j.fill hA.new ht hkL (onlyB_spec hu) (notMk_spec hm) (hl L) hb hs)
/-- A block that changes within the region, loaded ahead of that (it waits for this one), or behind it (this one waits for it). -/
theorem Go1.lq {ty : TypeId} {x : Operand} {D : TypeDesc} {n : Nat} (b q : Nat) (c : Bool) {A : Array Value} {t : TypeId} (hm : ∀ L : Nat → Bool, L q = c → (b, A, t) ∈ l L) (hu : P.underlying ty = some D) (hd : D.isRow = true) (hi : (P.info? ty).map (·.size) = some n)
    (hx : ∀ vs, envOf ops T vs a0 af x = .pointer (some ⟨b, 0, none⟩) := by intro _; kernel_rfl) (ht : lvAt T i = .v (.agg A) := by rfl) (hn : A.size = n := by rfl) (hc : (if c = true then (af.toList.any fun e => e.on == q && Region.binds .any e) else waitsB ops q i) = true := by rfl)
    (hw : wantC ops T ⟨d, .load ty x, τ, p, af, g⟩ = some true := by rfl) (hf : Lv.free T i = true := by rfl) (hl : ∀ L, l (lset L i true) = l L := by intro _; rfl) : Go1 P ops a0 l w0 T i ⟨d, .load ty x, τ, p, af, g⟩ :=
  Go1.keep (fun L vs w a _ hA he => by
    have hx' := (he x (by simp [Op.operands])).trans (hx vs)
    have hLq : L q = c := by
      cases c with
      | true => exact dep hA.dep q hc
      | false => exact hA.not hc
    have hc := hA.j.kp.at b A t (hm L hLq)
    have := run_loadVar_mid w b 0 ty A.toList D hc.range hu hd (by rw [← hn] at hi; simpa using hi)
    unfold OpV execOp
    simp only [hx', Instr.loadAt, Instr.sureAddr, Sem.run_bind, Sem.run_pure, Result.andThen_ok, this]
    exact ⟨.inr (by rw [ht]; rfl), Below.refl _ _⟩) hw (by rw [ht]; rfl) hf hl
theorem RJ.over {L : Nat → Bool} {vs : Nat → Value} {w w' : World} {v : Value} {b : Nat} {A B : Array Value} {t : TypeId} (h : RJ l w0 T L vs w) (hn : L i = false) (hf : Lv.free T i = true) (hba : (lvAt T i).bare = true) (hb : (b, A, t) ∈ l L) (hl : ∀ p ∈ l (lset L i true), p = (b, B, t) ∨ p ∈ l L ∧ p.1 ≠ b)
    (ho : Own w b A t → Own w' b B t) (hg : w.grownBy w' (some b)) (hB : Below w0.heap.size w0 w') : RJ l w0 T (lset L i true) (lset vs i v) w' := by
  have hm := Lv.bare_made hba
  refine h.next hn ⟨fun p hp => ?_, hB⟩ hg.size (fun g hg p hp => ?_) (fun k hk hL _ g hgk => .inl (hg.block g (h.fr k hk hL g hgk).2.1 (fun e => (h.fr k hk hL g hgk).2.2 _ hb (Option.some.inj e).symm))) (fun k A B t hT _ _ => absurd rfl (free_ne hf hT))
    (fun e => by rw [hm] at e; cases e) (fun _ _ _ _ e => by rw [e] at hm; cases hm) (fun _ _ e => by rw [e] at hm; cases hm) (fun _ e => by rw [e] at hm; cases hm) (fun _ _ e => by rw [e] at hba; cases hba) (fun _ _ e => by rw [e] at hba; cases hba)
  · rcases hl p hp with rfl | ⟨h1, h2⟩
    · exact ho (h.kp.1 _ hb)
    · unfold Own
      rw [hg.block p.1 (h.kp.1 p h1).lt (fun e => h2 (Option.some.inj e))]
      exact h.kp.1 p h1
  · have h6 := hg _ hb
    rcases hl p hp with rfl | ⟨h1, -⟩
    · exact h6
    · exact hg p h1
/-- The change of the list when operation i comes up: block b holds B. -/
def Ov (l : (Nat → Bool) → Kl) (i b : Nat) (A B : Array Value) (t : TypeId) : Prop := ∀ L : Nat → Bool, L i = false → (b, A, t) ∈ l L ∧ ∀ p ∈ l (lset L i true), p = (b, B, t) ∨ p ∈ l L ∧ p.1 ≠ b
theorem Ov.hr {b : Nat} {A B : Array Value} {t : TypeId} {r : (Nat → Bool) → Kl} (hl : ∀ L, l L = (b, if L i = true then B else A, t) :: r L) (hr : ∀ L, r (lset L i true) = r L) (hne : ∀ L, ∀ p ∈ r L, p.1 ≠ b) : Ov l i b A B t := fun L hn => by
  refine ⟨by rw [hl, hn]; exact .head _, fun p hp => ?_⟩
  rw [hl, lset_at, hr] at hp
  rcases List.mem_cons.1 hp with rfl | hp
  · exact .inl rfl
  · exact .inr ⟨by rw [hl]; exact .tail _ hp, hne L p hp⟩
theorem Ov.hc {b : Nat} {A : Array Value} {t : TypeId} {r : (Nat → Bool) → Kl} (hl : ∀ L, l L = (b, A, t) :: r L) (hr : ∀ L, r (lset L i true) = r L) (hne : ∀ L, ∀ p ∈ r L, p.1 ≠ b) : Ov l i b A A t := fun L hn => by
  refine ⟨by rw [hl]; exact .head _, fun p hp => ?_⟩
  rw [hl, hr] at hp
  rcases List.mem_cons.1 hp with rfl | hp
  · exact .inl rfl
  · exact .inr ⟨by rw [hl]; exact .tail _ hp, hne L p hp⟩
theorem Ov.nx {b : Nat} {A B : Array Value} {t : TypeId} {e : (Nat → Bool) → Nat × Array Value × TypeId} {l' : (Nat → Bool) → Kl} (hl : ∀ L, l L = e L :: l' L) (he : ∀ L, e (lset L i true) = e L) (hne : ∀ L, (e L).1 ≠ b) (h : Ov l' i b A B t) : Ov l i b A B t := fun L hn => by
  obtain ⟨h1, h2⟩ := h L hn
  refine ⟨by rw [hl]; exact .tail _ h1, fun p hp => ?_⟩
  rw [hl, he] at hp
  rcases List.mem_cons.1 hp with rfl | hp
  · exact .inr ⟨by rw [hl]; exact .head _, hne L⟩
  · rcases h2 p hp with h3 | ⟨h3, h4⟩
    · exact .inl h3
    · exact .inr ⟨by rw [hl]; exact .tail _ h3, h4⟩
/-- A kept block is written as a whole. -/
theorem Go1.sk {ty t : TypeId} {x y : Operand} {A B : Array Value} (b : Nat) (hv : Ov l i b A B t) (hb : w0.heap.size ≤ b) (hi : (P.info? ty).map (·.size) = some B.size) (h1 : B.all (·.oneCell') = true) (hs : B.size = A.size := by rfl)
    (hy : ∀ vs, envOf ops T vs a0 af y = .agg B := by intro _; kernel_rfl) (hx : ∀ vs, envOf ops T vs a0 af x = .pointer (some ⟨b, 0, none⟩) := by intro _; kernel_rfl) (hm : notMk (lvAt T i) = true := by rfl) (hf : Lv.free T i = true := by rfl)
    (hw : wantC ops T ⟨none, .store ty x y, τ, p, af, g⟩ = some true := by rfl) : Go1 P ops a0 l w0 T i ⟨none, .store ty x y, τ, p, af, g⟩ :=
  Go1.of hw fun L vs w a K ho hA he hK => by
    obtain ⟨hmem, hch⟩ := hv L hA.new
    have hx' : a.eval x = .pointer (some ⟨b, 0, none⟩) := (he x (by simp [Op.operands])).trans (hx vs)
    have hy' : a.eval y = .agg B := (he y (by simp [Op.operands])).trans (hy vs)
    have h4 := hA.j.kp.1 _ hmem
    have hth : w.there b 0 B.size := h4.there 0 _ (by rw [hs, Nat.zero_add]; exact Nat.le_refl _)
    unfold OpV execOp
    simp only [hx', hy', Instr.storeAt, Instr.sureAddr, Sem.run_bind, Sem.run_pure, Result.andThen_ok, run_storeVar_mid w b 0 ty B hth hi h1]
    exact hK _ _ (.inl rfl) (hA.j.over hA.new hf (notMk_spec hm) hmem hch (fun h => own_setCells h hs) (grown_setCellsQ b B.toList 0 w) (Below.setCells _ _ _ _ hb hA.j.kp.2))
/-- Any operation, by a step of its own: the slots that it looks at, known. -/
theorem knows_at {vs : Nat → Value} {af : Array Edge} {fs : List (Nat × Value)} (h : fs.map (fun f => envOf ops T vs a0 af (.tmp f.1)) = fs.map (·.2)) (f : Nat × Value) (hf : f ∈ fs) : envOf ops T vs a0 af (.tmp f.1) = f.2 := List.map_eq_map_iff.1 h f hf
theorem Go1.x {op : Op} (fs : List (Nat × Value)) (h : ∀ (L : Nat → Bool) (a : Act) (w : World) (K : Act → World → Prop) (Q : Exit → Act → World → Prop), (∀ f ∈ fs, a.tmps.getD f.1 undef = f.2) → Kp (l L) w0 w → (∀ v w', (lvAt T i).F v → Below w.heap.size w w' → K (a.put d v) w') → Oper.wp P ⟨d, op, τ, p, af, g⟩ a w K Q)
    (hv : ∀ vs, fs.map (fun f => envOf ops T vs a0 af (.tmp f.1)) = fs.map (·.2) := by intro _; kernel_rfl) (hop : fs.all (fun f => (slotsIn op).contains f.1) = true := by rfl)
    (hw : wantC ops T ⟨d, op, τ, p, af, g⟩ = some true := by rfl) (ht : notMk (lvAt T i) = true := by rfl) (hf : Lv.free T i = true := by rfl) (hl : ∀ L, l (lset L i true) = l L := by intro _; rfl) : Go1 P ops a0 l w0 T i ⟨d, op, τ, p, af, g⟩ := by
  intro Q L vs w a K ho hA hs hx hK
  refine step_do ho (wantC_spec hw hs) (h L a w K Q (fun f hm => ?_) hA.j.kp fun v w' h1 h2 => hK v w' (.inr h1) (hA.j.keep hA.new hf (notMk_spec ht) (hl L) h2))
  rw [← knows_at (hv vs) f hm]
  refine hs f.1 (List.mem_append_left _ (List.mem_filterMap.2 ⟨.tmp f.1, ?_, rfl⟩))
  have := List.all_eq_true.1 hop f hm
  simpa using slotsIn_mem this
/-- What an operation that this one waits for left: a row of its own, something of its own. -/
theorem At.row {L : Nat → Bool} {vs : Nat → Value} {w : World} (h : At ops l w0 T i o L vs w) (k : Nat) {ps : List (Nat ⊕ Value)} {t : TypeId} (hd : (o.after.toList.any fun e => e.on == k && Region.binds .any e) = true := by rfl) (ht : lvAt T k = .bs ps t := by rfl) : (∀ j, Sum.inl j ∈ ps → L j = true) ∧ ∃ g, vs k = .slice (some ⟨g, 0, none⟩) ps.length ps.length ∧ RowAt w g (ps.map (res vs)).toArray t := h.j.bs k ps t ht (Go.Proofs.YtaabcllghniaoaaDoor.dep h.dep k hd)
theorem At.own {L : Nat → Bool} {vs : Nat → Value} {w : World} (h : At ops l w0 T i o L vs w) (k : Nat) {R : Rel} (hd : (o.after.toList.any fun e => e.on == k && Region.binds .any e) = true := by rfl) (ht : lvAt T k = .ow R := by rfl) : R.r w (vs k) := h.j.ow k R ht (Go.Proofs.YtaabcllghniaoaaDoor.dep h.dep k hd)
theorem At.same {L : Nat → Bool} {vs : Nat → Value} {w : World} (h : At ops l w0 T i o L vs w) (k : Nat) {j : Nat} (hd : (o.after.toList.any fun e => e.on == k && Region.binds .any e) = true := by rfl) (ht : lvAt T k = .al j := by rfl) : L j = true ∧ vs k = vs j := h.j.al k j id ht (Go.Proofs.YtaabcllghniaoaaDoor.dep h.dep k hd)
/-- A call, by its contract, with all that is known: what it answers is a value; or something new, of its own. -/
theorem Go1.cj {f : FuncId} {xs : Array Operand} {ats : Array TypeId} {v : Value} (args : (Nat → Value) → Array Value) (h : ∀ L vs w, At ops l w0 T i ⟨d, .call ⟨.value (.func f), xs, ats⟩, τ, p, af, g⟩ L vs w → Calls P f (args vs) w fun e w' => e = .returned v ∧ Below w.heap.size w w')
    (hfn : isFnB P f = true := by kernel_rfl) (hx : ∀ vs, (#[] ++ xs.map (envOf ops T vs a0 af) ++ #[]) = args vs := by intro _; kernel_rfl)
    (ht : lvAt T i = .v v := by rfl) (hw : wantC ops T ⟨d, .call ⟨.value (.func f), xs, ats⟩, τ, p, af, g⟩ = some true := by rfl) (hf : Lv.free T i = true := by rfl) (hl : ∀ L, l (lset L i true) = l L := by intro _; rfl) : Go1 P ops a0 l w0 T i ⟨d, .call ⟨.value (.func f), xs, ats⟩, τ, p, af, g⟩ :=
  Go1.keep (fun L vs w a _ hA he => by
    have e1 : xs.map a.eval = xs.map (envOf ops T vs a0 af) := Array.map_congr_left fun x hm => he x (by simp [Op.operands, Call.operands, hm])
    unfold OpV
    rw [execOp_call_go, e1, hx vs, run_fn hfn]
    simp only
    refine (h L vs w hA).mono ?_
    rintro e w' ⟨rfl, h2⟩
    exact ⟨.inr (by rw [ht]; rfl), h2⟩) hw (by rw [ht]; rfl) hf hl
theorem Go1.co {f : FuncId} {xs : Array Operand} {ats : Array TypeId} {R : Rel} (args : (Nat → Value) → Array Value) (h : ∀ L vs w, At ops l w0 T i ⟨d, .call ⟨.value (.func f), xs, ats⟩, τ, p, af, g⟩ L vs w → Calls P f (args vs) w fun e w' => ∃ v, e = .returned v ∧ R.r w' v ∧ (∀ g ∈ blks v, w.heap.size ≤ g ∧ g < w'.heap.size) ∧ Below w.heap.size w w')
    (hfn : isFnB P f = true := by kernel_rfl) (hx : ∀ vs, (#[] ++ xs.map (envOf ops T vs a0 af) ++ #[]) = args vs := by intro _; kernel_rfl)
    (ht : lvAt T i = .ow R := by rfl) (hw : wantC ops T ⟨d, .call ⟨.value (.func f), xs, ats⟩, τ, p, af, g⟩ = some true := by rfl) (hf : Lv.free T i = true := by rfl) (hl : ∀ L, l (lset L i true) = l L := by intro _; rfl) : Go1 P ops a0 l w0 T i ⟨d, .call ⟨.value (.func f), xs, ats⟩, τ, p, af, g⟩ :=
  Go1.of hw fun L vs w a K _ hA he hK => by
    have e1 : xs.map a.eval = xs.map (envOf ops T vs a0 af) := Array.map_congr_left fun x hm => he x (by simp [Op.operands, Call.operands, hm])
    unfold OpV
    rw [execOp_call_go, e1, hx vs, run_fn hfn]
    simp only
    refine (h L vs w hA).mono ?_
    rintro e w' ⟨v, rfl, h1, h2, h3⟩
    exact hK v w' (.inr (by rw [ht]; trivial)) (hA.j.new hA.new hf (hl L) h3 h2 (fun _ _ _ _ e => by rw [ht] at e; cases e) (fun _ _ e => by rw [ht] at e; cases e) (fun R' e => by rw [ht] at e; cases e; exact h1) (fun _ _ e => by rw [ht] at e; cases e) (fun _ _ e => by rw [ht] at e; cases e))
/-- An operation that hands on what another one left. -/
theorem Go1.id {op : Op} (k s : Nat) (h : ∀ L vs w (a : Act), At ops l w0 T i ⟨d, op, τ, p, af, g⟩ L vs w → a.tmps.getD s undef = vs k → (execOp a.eval ⟨d, op, τ, p, af, g⟩).run P w = .ok (.value (vs k)) w)
    (hv : ∀ vs, envOf ops T vs a0 af (.tmp s) = vs k := by intro _; kernel_rfl) (hd : (af.toList.any fun e => e.on == k && Region.binds .any e) = true := by rfl) (ht : lvAt T i = .al k := by rfl) (hop : (slotsIn op).contains s = true := by rfl)
    (hw : wantC ops T ⟨d, op, τ, p, af, g⟩ = some true := by rfl) (hf : Lv.free T i = true := by rfl) (hl : ∀ L, l (lset L i true) = l L := by intro _; rfl) : Go1 P ops a0 l w0 T i ⟨d, op, τ, p, af, g⟩ :=
  Go1.of hw fun L vs w a K _ hA he hK => by
    have hm : (lvAt T i).made = false := by rw [ht]; rfl
    unfold OpV
    rw [h L vs w a hA ((he _ (slotsIn_mem hop)).trans (hv vs))]
    refine hK _ _ (.inr (by rw [ht]; trivial)) (hA.j.next hA.new (by rw [hl L]; exact hA.j.kp) (Nat.le_refl _) (fun g hg => by rw [hl L]; exact hg) (fun _ _ _ _ _ _ => .inl rfl) (fun k' A B t hT _ _ => absurd rfl (free_ne hf hT)) (fun e => by rw [hm] at e; cases e) (fun _ _ _ _ e => by rw [e] at hm; cases hm) (fun _ _ e => by rw [e] at hm; cases hm) (fun _ e => by rw [e] at hm; cases hm) (fun k' gk e => ?_) (fun _ _ e => by rw [ht] at e; cases e))
    rw [ht] at e
    cases e
    exact ⟨dep hA.dep k hd, rfl⟩
/-- An operation that tells something of what another one left. -/
theorem Go1.pj {op : Op} {gk : Value → Value} (k : Nat) (h : ∀ L vs w (a : Act), At ops l w0 T i ⟨d, op, τ, p, af, g⟩ L vs w → (∀ x ∈ op.operands, a.eval x = envOf ops T vs a0 af x) → L k = true ∧ (execOp a.eval ⟨d, op, τ, p, af, g⟩).run P w = .ok (.value (gk (vs k))) w)
    (ht : lvAt T i = .fn k gk := by rfl) (hw : wantC ops T ⟨d, op, τ, p, af, g⟩ = some true := by rfl) (hf : Lv.free T i = true := by rfl) (hl : ∀ L, l (lset L i true) = l L := by intro _; rfl) : Go1 P ops a0 l w0 T i ⟨d, op, τ, p, af, g⟩ :=
  Go1.of hw fun L vs w a K _ hA he hK => by
    have hm : (lvAt T i).made = false := by rw [ht]; rfl
    obtain ⟨hkL, hr⟩ := h L vs w a hA he
    unfold OpV
    rw [hr]
    refine hK _ _ (.inr (by rw [ht]; trivial)) (hA.j.next hA.new (by rw [hl L]; exact hA.j.kp) (Nat.le_refl _) (fun g hg => by rw [hl L]; exact hg) (fun _ _ _ _ _ _ => .inl rfl) (fun k' A B t hT _ _ => absurd rfl (free_ne hf hT)) (fun e => by rw [hm] at e; cases e) (fun _ _ _ _ e => by rw [e] at hm; cases hm) (fun _ _ e => by rw [e] at hm; cases hm) (fun _ e => by rw [e] at hm; cases hm) (fun k' gk e => ?_) (fun _ _ e => by rw [ht] at e; cases e))
    rw [ht] at e
    cases e
    exact ⟨hkL, rfl⟩
/-- What an operation told of another one's, and what that one left. -/
theorem At.fnk {L : Nat → Bool} {vs : Nat → Value} {w : World} (h : At ops l w0 T i o L vs w) (k : Nat) {j : Nat} {gk : Value → Value} {R : Rel} (hd : (o.after.toList.any fun e => e.on == k && Region.binds .any e) = true := by rfl) (ht : lvAt T k = .fn j gk := by rfl) (hj : lvAt T j = .ow R := by rfl) : L j = true ∧ vs k = gk (vs j) ∧ R.r w (vs j) := by
  obtain ⟨h1, h2⟩ := h.j.al k j gk ht (Go.Proofs.YtaabcllghniaoaaDoor.dep h.dep k hd)
  exact ⟨h1, h2, h.j.ow j R hj h1⟩
/-- An operation takes what operation k left, and leaves it changed, or something new. -/
theorem RJ.onto {L : Nat → Bool} {vs : Nat → Value} {w w' : World} {v : Value} {k : Nat} {R : Rel} (h : RJ l w0 T L vs w) (hn : L i = false) (hk : lvAt T k = .od R i) (hkL : L k = true) (hf : Lv.free T i = true) (hl : l (lset L i true) = l L)
    (hg : ∃ o, w.grownBy w' o ∧ ∀ g, o = some g → g ∈ blks (vs k)) (hfr : ∀ g ∈ blks v, g ∈ blks (vs k) ∨ w.heap.size ≤ g ∧ g < w'.heap.size) (ho : ∀ R', (lvAt T i = .ow R' ∨ ∃ z, lvAt T i = .od R' z) → R'.r w' v) (ht : (∃ R', lvAt T i = .ow R') ∨ ∃ R' z, lvAt T i = .od R' z) : RJ l w0 T (lset L i true) (lset vs i v) w' := by
  obtain ⟨o, hgr, hin⟩ := hg
  have hlk := live_od hk hkL hn
  have hfk := h.fr k (made_od hk) hlk
  have hmkn : ∀ A B t q, lvAt T i ≠ .mk A B t q := fun A B t q e => by rcases ht with ⟨_, e'⟩ | ⟨_, _, e'⟩ <;> (rw [e'] at e; cases e)
  have hbsn : ∀ ps t, lvAt T i ≠ .bs ps t := fun ps t e => by rcases ht with ⟨_, e'⟩ | ⟨_, _, e'⟩ <;> (rw [e'] at e; cases e)
  have haln : ∀ j g, lvAt T i ≠ .fn j g := fun j g e => by rcases ht with ⟨_, e'⟩ | ⟨_, _, e'⟩ <;> (rw [e'] at e; cases e)
  refine h.next0 hn ?_ hgr.size (fun g hg => by rw [hl]; exact hg) (fun j hj hL _ hz g hg => ?_) (fun _ _ _ _ hT _ _ => absurd rfl (free_ne hf hT)) (fun _ g hg => ?_) (fun _ j hj hji hL g hg hv => ?_)
    (fun _ _ _ _ e => absurd e (hmkn _ _ _ _)) (fun _ _ e => absurd e (hbsn _ _)) (fun R' e => ho R' (.inl e)) (fun _ _ e => absurd e (haln _ _)) (fun R' z e => ho R' (.inr ⟨z, e⟩))
  · rw [hl]
    refine ⟨fun p hp => ?_, hgr.os.trans h.kp.2.os, hgr.tape.trans h.kp.2.tape, hgr.output.trans h.kp.2.output, Nat.le_trans h.kp.2.size hgr.size, fun j hj => ?_⟩
    · unfold Own
      rw [hgr.block p.1 (h.kp.1 p hp).lt (fun e => (hfk _ (hin _ e.symm)).2.2 p hp rfl)]
      exact h.kp.1 p hp
    · rw [hgr.block j (Nat.lt_of_lt_of_le hj h.kp.2.size) (fun e => Nat.not_le_of_lt hj (hfk _ (hin _ e.symm)).1)]
      exact h.kp.2.block j hj
  · exact .inl (hgr.block g (h.fr j hj hL g hg).2.1 fun e => h.ap j k hj (made_od hk) (fun e' => hz R i (by rw [e']; exact hk) rfl) hL hlk g hg (hin _ e.symm))
  · rcases hfr g hg with h1 | ⟨h1, h2⟩
    · obtain ⟨h2, h3, h4⟩ := hfk g h1
      exact ⟨h2, Nat.lt_of_lt_of_le h3 hgr.size, by rw [hl]; exact h4⟩
    · refine ⟨Nat.le_trans h.kp.2.size h1, h2, fun p hp => ?_⟩
      rw [hl] at hp
      exact Nat.ne_of_lt (Nat.lt_of_lt_of_le (h.kp.1 p hp).lt h1)
  · obtain ⟨hL', hz⟩ := live_lset hji hL
    rcases hfr g hv with h1 | ⟨h1, -⟩
    · exact h.ap j k hj (made_od hk) (fun e' => hz R i (by rw [e']; exact hk) rfl) hL' hlk g hg h1
    · have := (h.fr j hj hL' g hg).2.1
      omega
/-- What an operation that this one waits for left, and that another one will take, or this one. -/
theorem At.till {L : Nat → Bool} {vs : Nat → Value} {w : World} (h : At ops l w0 T i o L vs w) (k : Nat) {R : Rel} {z : Nat} (hd : (o.after.toList.any fun e => e.on == k && Region.binds .any e) = true := by rfl) (ht : lvAt T k = .od R z := by rfl) (hz : (z == i || waitsB ops z i) = true := by rfl) : R.r w (vs k) := by
  refine h.j.od k R z ht (live_od ht (Go.Proofs.YtaabcllghniaoaaDoor.dep h.dep k hd) ?_)
  rcases Bool.or_eq_true_iff.1 hz with h1 | h1
  · rw [beq_iff_eq] at h1
    rw [h1]
    exact h.new
  · exact h.not h1
/-- A step that takes what operation k left, and leaves it changed, or something new. -/
theorem Go1.on {op : Op} {R R' : Rel} (k : Nat) (h : ∀ L vs w (a : Act), At ops l w0 T i ⟨d, op, τ, p, af, g⟩ L vs w → (∀ x ∈ op.operands, a.eval x = envOf ops T vs a0 af x) → R.r w (vs k) → OpV P ⟨d, op, τ, p, af, g⟩ a.eval w fun v w' => R'.r w' v ∧ (∃ o, w.grownBy w' o ∧ ∀ g, o = some g → g ∈ blks (vs k)) ∧ ∀ g ∈ blks v, g ∈ blks (vs k) ∨ w.heap.size ≤ g ∧ g < w'.heap.size)
    (hk : lvAt T k = .od R i := by rfl) (ht : lvAt T i = .ow R' ∨ ∃ z, lvAt T i = .od R' z := by first | exact .inl rfl | exact .inr ⟨_, rfl⟩) (hd : (af.toList.any fun e => e.on == k && Region.binds .any e) = true := by rfl)
    (hw : wantC ops T ⟨d, op, τ, p, af, g⟩ = some true := by rfl) (hf : Lv.free T i = true := by rfl) (hl : ∀ L, l (lset L i true) = l L := by intro _; rfl) : Go1 P ops a0 l w0 T i ⟨d, op, τ, p, af, g⟩ :=
  Go1.of hw fun L vs w a K _ hA he hK => by
    have hkL := dep hA.dep k hd
    refine (h L vs w a hA he (hA.j.od k R i hk (live_od hk hkL hA.new))).mono fun v w' ⟨h1, h2, h3⟩ => hK v w' (.inr ?_) (hA.j.onto hA.new hk hkL hf (hl L) h2 h3 (fun R2 e => ?_) ?_)
    · rcases ht with e | ⟨_, e⟩ <;> (rw [e]; trivial)
    · have : R2 = R' := by
        rcases ht with e' | ⟨_, e'⟩ <;> rcases e with e | ⟨_, e⟩ <;> (rw [e'] at e; cases e <;> rfl)
      rw [this]
      exact h1
    · rcases ht with e | ⟨z, e⟩
      · exact .inl ⟨_, e⟩
      · exact .inr ⟨_, z, e⟩
/-- A step that makes something new of its own. -/
theorem Go1.nw {op : Op} {R' : Rel} (h : ∀ L vs w (a : Act), At ops l w0 T i ⟨d, op, τ, p, af, g⟩ L vs w → (∀ x ∈ op.operands, a.eval x = envOf ops T vs a0 af x) → OpV P ⟨d, op, τ, p, af, g⟩ a.eval w fun v w' => R'.r w' v ∧ (∀ g ∈ blks v, w.heap.size ≤ g ∧ g < w'.heap.size) ∧ Below w.heap.size w w')
    (ht : lvAt T i = .ow R' ∨ ∃ z, lvAt T i = .od R' z := by first | exact .inl rfl | exact .inr ⟨_, rfl⟩)
    (hw : wantC ops T ⟨d, op, τ, p, af, g⟩ = some true := by rfl) (hf : Lv.free T i = true := by rfl) (hl : ∀ L, l (lset L i true) = l L := by intro _; rfl) : Go1 P ops a0 l w0 T i ⟨d, op, τ, p, af, g⟩ :=
  Go1.of hw fun L vs w a K _ hA he hK => by
    refine (h L vs w a hA he).mono fun v w' ⟨h1, h2, h3⟩ => hK v w' (.inr ?_) (hA.j.new hA.new hf (hl L) h3 h2 (fun _ _ _ _ e => ?_) (fun _ _ e => ?_) (fun R2 e => ?_) (fun _ _ e => ?_) fun R2 _ e => ?_)
    · rcases ht with e | ⟨_, e⟩ <;> (rw [e]; trivial)
    · rcases ht with e' | ⟨_, e'⟩ <;> (rw [e'] at e; cases e)
    · rcases ht with e' | ⟨_, e'⟩ <;> (rw [e'] at e; cases e)
    · rcases ht with e' | ⟨_, e'⟩ <;> (rw [e'] at e; cases e <;> exact h1)
    · rcases ht with e' | ⟨_, e'⟩ <;> (rw [e'] at e; cases e)
    · rcases ht with e' | ⟨_, e'⟩ <;> (rw [e'] at e; cases e <;> exact h1)
theorem heap_freeze (w : World) (g o k : Nat) : (w.freeze ⟨g, o, none⟩ 1).heap[k]? = if k = g then (w.heap[k]?).map (fun
    | .cells c e (lo, hi) => .cells c e (if lo == hi then (o, o + 1) else (min lo o, max hi (o + 1)))
    | x => x) else w.heap[k]? := by
  unfold World.freeze
  rw [if_neg (by decide)]
  simp only [Array.getElem?_modify]
  by_cases h : k = g
  · subst h
    rw [if_pos rfl, if_pos rfl]
    rfl
  · rw [if_neg h, if_neg (Ne.symm h)]
theorem run_mark {w : World} {ty e : TypeId} {g n c : Nat} {A : Array Value} {t : TypeId} (ht : P.underlying ty = some (.slice e)) (he : P.underlying e = some (.int .u8)) (h : RowAt w g A t) : (convert ty ty (.slice (some ⟨g, 0, none⟩) n c)).run P w = .ok (.slice (some ⟨g, 0, none⟩) n c) (w.freeze ⟨g, A.size, none⟩ 1) := by
  obtain ⟨fr, h⟩ := h
  have hsh : w.shape? g = some (t, A.size) := by
    unfold World.shape?
    rw [h]
  simp [convert, run_underlying ht, run_underlying he, markStringish, hsh]
/-- A row of bytes that was made is told as a text: it stays as it is, but for its mark. -/
theorem Go1.cm {ty e : TypeId} {s : Nat} {ps : List (Nat ⊕ Value)} {t : TypeId} (k : Nat) (hu : P.underlying ty = some (.slice e)) (hu8 : P.underlying e = some (.int .u8)) (hk : lvAt T k = .bs ps t := by rfl)
    (hv : ∀ vs, envOf ops T vs a0 af (.tmp s) = vs k := by intro _; kernel_rfl) (hd : (af.toList.any fun e => e.on == k && Region.binds .any e) = true := by rfl) (ht : lvAt T i = .al k := by rfl)
    (hw : wantC ops T ⟨d, .convert ty ty (.tmp s), τ, p, af, g⟩ = some true := by rfl) (hf : Lv.free T i = true := by rfl) (hl : ∀ L, l (lset L i true) = l L := by intro _; rfl) : Go1 P ops a0 l w0 T i ⟨d, .convert ty ty (.tmp s), τ, p, af, g⟩ :=
  Go1.of hw fun L vs w a K _ hA he hK => by
    have hm : (lvAt T i).made = false := by rw [ht]; rfl
    have hkL := dep hA.dep k hd
    obtain ⟨-, b, hb, hrow⟩ := hA.j.bs k ps t hk hkL
    have hev : a.eval (.tmp s) = .slice (some ⟨b, 0, none⟩) ps.length ps.length := ((he (.tmp s) (by simp [Op.operands])).trans (hv vs)).trans hb
    obtain ⟨h1, h2, h3⟩ := hA.j.fr k (made_bs hk) (live_bs hk hkL) b (by rw [hb]; exact .head _)
    have hsz : (w.freeze ⟨b, (ps.map (res vs)).toArray.size, none⟩ 1).heap.size = w.heap.size := by
      unfold World.freeze
      rw [if_neg (by decide)]
      simp
    have hblk : ∀ j, j ≠ b → (w.freeze ⟨b, (ps.map (res vs)).toArray.size, none⟩ 1).heap[j]? = w.heap[j]? := fun j hj => by rw [heap_freeze, if_neg hj]
    have hB : Below w0.heap.size w0 (w.freeze ⟨b, (ps.map (res vs)).toArray.size, none⟩ 1) := by
      have h4 := hA.j.kp.2
      refine ⟨?_, ?_, ?_, by rw [hsz]; exact h4.size, fun j hj => by rw [hblk j (by omega)]; exact h4.block j hj⟩
      · rw [← h4.os]; unfold World.freeze; rw [if_neg (by decide)]
      · rw [← h4.tape]; unfold World.freeze; rw [if_neg (by decide)]
      · rw [← h4.output]; unfold World.freeze; rw [if_neg (by decide)]
    unfold OpV execOp
    simp only [hev, Sem.run_bind, run_mark hu hu8 hrow, Result.andThen_ok, Sem.run_pure]
    refine hK _ _ (.inr (by rw [ht]; trivial)) (hA.j.next hA.new (by
      rw [hl L]
      exact ⟨fun q hq => by unfold Own; rw [hblk q.1 (h3 q hq)]; exact hA.j.kp.1 q hq, hB⟩) (by rw [hsz]; exact Nat.le_refl _) (fun g hg => by rw [hl L]; exact hg) (fun j hj hL _ g hg => ?_) (fun k' A B t hT _ _ => absurd rfl (free_ne hf hT)) (fun e => by rw [hm] at e; cases e) (fun _ _ _ _ e => by rw [e] at hm; cases hm) (fun _ _ e => by rw [e] at hm; cases hm) (fun _ e => by rw [e] at hm; cases hm) (fun k' gk e => ?_) (fun _ _ e => by rw [ht] at e; cases e))
    · by_cases hjk : j = k
      · subst hjk
        refine .inr ⟨⟨ps, t, hk⟩, fun A t' ⟨fr, hr⟩ => ?_⟩
        obtain rfl : g = b := by rw [hb] at hg; simpa [blks] using hg
        obtain ⟨lo, hi⟩ := fr
        exact ⟨_, by rw [heap_freeze, if_pos rfl, hr]; rfl⟩
      · refine .inl (hblk g fun e => ?_)
        exact hA.j.ap j k hj (made_bs hk) hjk hL (live_bs hk hkL) g hg (by rw [hb, e]; exact .head _)
    · rw [ht] at e
      cases e
      exact ⟨hkL, hb.symm⟩
def zips (parts : Array (Nat × Operand)) : Bool := (parts.toList.map (·.1)) == List.range parts.size
theorem zips_at {parts : Array (Nat × Operand)} (h : zips parts = true) (ρ : Operand → Value) {vals : List Value} (hv : parts.toList.map (fun x => ρ x.2) = vals) : (parts.map fun (i, x) => (i, ρ x)).toList = (vals.zipIdx 0).map fun x => (x.2, x.1) := by
  subst hv
  unfold zips at h
  have h1 : parts.toList.map (·.1) = List.range parts.size := by simpa using h
  rw [Array.toList_map]
  apply List.ext_getElem?
  intro k
  have h2 := congrArg (·[k]?) h1
  simp only [List.getElem?_map] at h2
  simp only [List.getElem?_map, List.getElem?_zipIdx, Nat.zero_add]
  cases hk : parts.toList[k]? with
  | none => simp
  | some x =>
    rw [hk] at h2
    simp only [Option.map_some] at h2
    have h3 : (List.range parts.size)[k]? = some x.1 := h2.symm
    have h4 : k < parts.size := by
      rw [List.getElem?_eq_some_iff] at hk
      simpa using hk.1
    rw [List.getElem?_range h4] at h3
    simp only [Option.some.injEq] at h3
    simp [← h3]
/-- A row of parts is made. -/
theorem Go1.bl {ty e : TypeId} {len : Nat} {parts : Array (Nat × Operand)} {ps : List (Nat ⊕ Value)} (hu : P.underlying ty = some (.slice e)) (hsz : (P.info? e).map (fun i => (i.size, i.zero.isSome)) = some (1, true)) (ht : lvAt T i = .bs ps e := by rfl) (hps : ∀ vs, parts.toList.map (fun x => envOf ops T vs a0 af x.2) = ps.map (res vs) := by intro _; kernel_rfl)
    (hlen : len = ps.length := by rfl) (hpos : decide (0 < len ∧ len ≤ 2 ^ 24) = true := by rfl) (hz : zips parts = true := by rfl) (href : (ps.all fun
      | .inl k => af.toList.any fun e => e.on == k && Region.binds .any e
      | .inr v => v.oneCell') = true := by rfl) (h1 : ∀ L vs w, At ops l w0 T i ⟨d, .buildSlice ty len parts, τ, p, af, g⟩ L vs w → ∀ k, Sum.inl k ∈ ps → (vs k).oneCell' = true := by intro _ _ _ _ k hk; simp at hk)
    (hw : wantC ops T ⟨d, .buildSlice ty len parts, τ, p, af, g⟩ = some true := by rfl) (hf : Lv.free T i = true := by rfl) (hl : ∀ L, l (lset L i true) = l L := by intro _; rfl) : Go1 P ops a0 l w0 T i ⟨d, .buildSlice ty len parts, τ, p, af, g⟩ :=
  Go1.of hw fun L vs w a K _ hA he hK => by
    have hpos' := of_decide_eq_true hpos
    have hall : ∀ k, Sum.inl k ∈ ps → L k = true := fun k hk => dep hA.dep k (List.all_eq_true.1 href _ hk)
    have hev : parts.toList.map (fun x => a.eval x.2) = ps.map (res vs) := by
      rw [← hps vs]
      refine List.map_congr_left fun x hx => he x.2 ?_
      simp only [Op.operands, List.mem_toArray, List.mem_map]
      exact ⟨x, hx, rfl⟩
    have hone : ∀ v ∈ ps.map (res vs), v.cells = #[v] := fun v hv => by
      have h2 : v.oneCell' = true := by
        obtain ⟨x, hx, rfl⟩ := List.mem_map.1 hv
        cases x with
        | inl k => exact h1 L vs w hA k hx
        | inr v => exact List.all_eq_true.1 href _ hx
      cases v <;> first | rfl | (simp [Value.oneCell'] at h2)
    obtain ⟨ie, hie⟩ : ∃ ie, P.info? e = some ie := by
      cases h : P.info? e with
      | none => rw [h] at hsz; cases hsz
      | some ie => exact ⟨ie, rfl⟩
    rw [hie] at hsz
    simp only [Option.map_some, Option.some.injEq, Prod.mk.injEq] at hsz
    obtain ⟨z, hzz⟩ := Option.isSome_iff_exists.1 hsz.2
    have hrun := run_buildSlice w ty e len (parts.map fun (i, x) => (i, a.eval x)) (ps.map (res vs)).toArray ie z hu hie hzz (by rw [hsz.1]; omega) (by rw [hsz.1]; omega) (by
      rw [zips_at hz a.eval hev, hsz.1]
      exact Great.fill_flat _ _ hone (by simp [hlen]))
    unfold OpV execOp
    simp only [Sem.run_bind, hrun, Result.andThen_ok, Sem.run_pure]
    subst hlen
    exact hK _ _ (.inr (by rw [ht]; exact ⟨_, rfl⟩)) (hA.j.new hA.new hf (hl L) ((Below.refl _ _).alloc (Nat.le_refl _) _) (fun g hg => by
      obtain rfl : g = w.heap.size := by simpa [blks] using hg
      exact ⟨Nat.le_refl _, by simp⟩) (fun _ _ _ _ e => by rw [ht] at e; cases e) (fun ps' t' e => by
      rw [ht] at e
      cases e
      exact ⟨hall, _, rfl, (own_new w _ _).rowAt⟩) (fun _ e => by rw [ht] at e; cases e) (fun _ _ e => by rw [ht] at e; cases e) (fun _ _ e => by rw [ht] at e; cases e))
theorem fc {b : Nat} {q : Nat × Array Value × TypeId} {r : Kl} (h : Hid (q.1 ≠ b)) (t : ∀ p ∈ r, p.1 ≠ b) : ∀ p ∈ q :: r, p.1 ≠ b := List.forall_mem_cons.2 ⟨h, t⟩
theorem fs {b : Nat} {q : Nat × Array Value × TypeId} {r : Kl} (h : Hid (b ≠ q.1)) (t : ∀ p ∈ r, p.1 ≠ b) : ∀ p ∈ q :: r, p.1 ≠ b := List.forall_mem_cons.2 ⟨Ne.symm h, t⟩
theorem fn {b : Nat} : ∀ p ∈ ([] : Kl), p.1 ≠ b := fun _ h => by cases h
/-- An operation that writes a kept block over, by a step of its own. -/
theorem Go1.xr {op : Op} {A B : Array Value} {t : TypeId} (fs : List (Nat × Value)) (b : Nat) (hv0 : Ov l i b A B t) (hb : w0.heap.size ≤ b)
    (h : ∀ (L : Nat → Bool) (a : Act) (w : World) (K : Act → World → Prop) (Q : Exit → Act → World → Prop), (∀ f ∈ fs, a.tmps.getD f.1 undef = f.2) → L i = false → Kp (l L) w0 w → Own w b A t → (∀ v, (lvAt T i).F v → K (a.put d v) (w.setRow b B)) → Oper.wp P ⟨d, op, τ, p, af, g⟩ a w K Q)
    (hv : ∀ vs, fs.map (fun f => envOf ops T vs a0 af (.tmp f.1)) = fs.map (·.2) := by intro _; kernel_rfl) (hop : fs.all (fun f => (slotsIn op).contains f.1) = true := by rfl)
    (hw : wantC ops T ⟨d, op, τ, p, af, g⟩ = some true := by rfl) (ht : notMk (lvAt T i) = true := by rfl) (hf : Lv.free T i = true := by rfl) : Go1 P ops a0 l w0 T i ⟨d, op, τ, p, af, g⟩ := by
  intro Q L vs w a K ho hA hs hx hK
  obtain ⟨hmem, hch⟩ := hv0 L hA.new
  refine step_do ho (wantC_spec hw hs) (h L a w K Q (fun f hm => ?_) hA.new hA.j.kp (hA.j.kp.1 _ hmem) fun v h1 => hK v _ (.inr h1) (hA.j.over hA.new hf (notMk_spec ht) hmem hch (fun h => setRow_heap w b _ _ t _ h) (grown_setRow w b B) (below_setRow hA.j.kp.2 hb _)))
  rw [← knows_at (hv vs) f hm]
  refine hs f.1 (List.mem_append_left _ (List.mem_filterMap.2 ⟨.tmp f.1, ?_, rfl⟩))
  have := List.all_eq_true.1 hop f hm
  simpa using slotsIn_mem this
end
/-- A block that was made, behind the region. -/
theorem RJ.got {vs : Nat → Value} {w : World} {n : Nat} (h : RJ l w0 T (fun i => decide (i < n)) vs w) (k : Nat) {b : Nat} (hb : vs k = .pointer (some ⟨b, 0, none⟩)) {A B : Array Value} {t : TypeId} {q : Nat} (ht : lvAt T k = .mk A B t q := by rfl) (hk : decide (k < n) = true := by rfl) (hq : decide (q < n) = true := by rfl) : Hid (w0.heap.size ≤ b) ∧ (∀ p ∈ l (fun i => decide (i < n)), Hid (p.1 ≠ b)) ∧ Own w b B t := by
  obtain ⟨b', h1, h4⟩ := h.bl k A B t q ht hk
  obtain rfl := ptr_eq (hb.symm.trans h1)
  obtain ⟨h2, -, h3⟩ := h.fr k (made_mk ht) (live_mk ht hk) b (by rw [hb]; exact .head _)
  rw [if_pos hq] at h4
  exact ⟨h2, h3, h4⟩
theorem RJ.got0 {vs : Nat → Value} {w : World} {n : Nat} (h : RJ l w0 T (fun i => decide (i < n)) vs w) (k : Nat) {b : Nat} (hb : vs k = .pointer (some ⟨b, 0, none⟩)) {A : Array Value} {t : TypeId} {q : Nat} (ht : lvAt T k = .mk A A t q := by rfl) (hk : decide (k < n) = true := by rfl) : Hid (w0.heap.size ≤ b) ∧ (∀ p ∈ l (fun i => decide (i < n)), Hid (p.1 ≠ b)) ∧ Own w b A t := by
  obtain ⟨b', h1, h4⟩ := h.bl k A A t q ht hk
  obtain rfl := ptr_eq (hb.symm.trans h1)
  obtain ⟨h2, -, h3⟩ := h.fr k (made_mk ht) (live_mk ht hk) b (by rw [hb]; exact .head _)
  rw [ite_self] at h4
  exact ⟨h2, h3, h4⟩
theorem RJ.apart {vs : Nat → Value} {w : World} {n : Nat} (h : RJ l w0 T (fun i => decide (i < n)) vs w) (k j : Nat) {b c : Nat} (hb : vs k = .pointer (some ⟨b, 0, none⟩)) (hc : vs j = .pointer (some ⟨c, 0, none⟩)) (ht : (lvAt T k).made = true := by rfl) (ht' : (lvAt T j).made = true := by rfl) (hne : k ≠ j := by decide) (hk : live T (fun i => decide (i < n)) k = true := by rfl) (hj : live T (fun i => decide (i < n)) j = true := by rfl) : Hid (b ≠ c) := fun e =>
  h.ap k j ht ht' hne hk hj b (by rw [hb]; exact .head _) (by rw [hc, e]; exact .head _)
end
end Go.Proofs.YtaabcllghniaoaaDoor
