/- CBOR: tokens that are short enough; bytes that are told as nothing. -/
import Derived.Test.YtaabcllghniaoaaDoorCM
import Derived.Test.YtaabcllghniaoaaDoorCF
namespace Go.Proofs.YtaabcllghniaoaaDoor
open Go Go.RowKit
/-- The tokens are short enough. -/
def Light (l : List Tk) : Prop := l.length ≤ 1000 ∧ ∀ t ∈ l, t.b.length ≤ 100000
theorem toks_light : ∀ (d : Nat) {m r : List Int} {ts : List Tk}, toks d m = some (ts, r) → (∀ t ∈ ts, t.b.length ≤ m.length) ∧ r.length ≤ m.length := fun d => by
  have hrun : ∀ {f : List Int → Option (List Tk × List Int)} (_ : ∀ {m r : List Int} {ts : List Tk}, f m = some (ts, r) → (∀ t ∈ ts, t.b.length ≤ m.length) ∧ r.length ≤ m.length) (k : Nat) {m r : List Int} {xs : List (List Tk)}, runs f k m = some (xs, r) → (∀ t ∈ xs.flatten, t.b.length ≤ m.length) ∧ r.length ≤ m.length := fun {f} H k => by
    induction k with
    | zero =>
      intro m r xs h
      obtain ⟨rfl, rfl⟩ := runs_zero h
      exact ⟨fun t ht => (by cases ht), Nat.le_refl _⟩
    | succ k ih =>
      intro m r ys h
      obtain ⟨x, r1, xs, h1, h2, rfl⟩ := runs_succ h
      obtain ⟨a1, a2⟩ := H h1
      obtain ⟨b1, b2⟩ := ih h2
      refine ⟨fun t ht => ?_, by omega⟩
      rw [List.flatten_cons] at ht
      rcases List.mem_append.1 ht with h | h
      · exact a1 t h
      · exact Nat.le_trans (b1 t h) a2
  have hstep : ∀ {f : Option (List Int → Option (List Tk × List Int))} (_ : ∀ g, f = some g → ∀ {m r : List Int} {ts : List Tk}, g m = some (ts, r) → (∀ t ∈ ts, t.b.length ≤ m.length) ∧ r.length ≤ m.length) {m r : List Int} {ts : List Tk}, toksF f m = some (ts, r) → (∀ t ∈ ts, t.b.length ≤ m.length) ∧ r.length ≤ m.length := fun {f} H {m r ts} h => by
    unfold toksF at h
    cases hg : hget m with
    | none => rw [hg] at h; cases h
    | some y =>
      obtain ⟨mj, n, k⟩ := y
      rw [hg] at h
      simp only at h
      have fin : ∀ {t : Tk} {r1 : List Int}, t.b.length ≤ m.length → r1.length ≤ m.length → some ([t], r1) = some (ts, r) → (∀ t ∈ ts, t.b.length ≤ m.length) ∧ r.length ≤ m.length := fun h1 h2 e => by
        simp only [Option.some.injEq, Prod.mk.injEq] at e
        obtain ⟨rfl, rfl⟩ := e
        exact ⟨fun t ht => by obtain rfl := List.mem_singleton.1 ht; exact h1, h2⟩
      by_cases h0 : mj = 0
      · rw [if_pos h0] at h; exact fin (by simp) (by rw [List.length_drop]; omega) h
      rw [if_neg h0] at h
      by_cases h1 : mj = 1
      · rw [if_pos h1] at h; exact fin (by simp) (by rw [List.length_drop]; omega) h
      rw [if_neg h1] at h
      by_cases h2 : mj = 2 ∨ mj = 3
      · rw [if_pos h2] at h
        split at h
        · cases h
        · exact fin (by simp only [List.length_take, List.length_drop]; omega) (by rw [List.length_drop, List.length_drop]; omega) h
      rw [if_neg h2] at h
      by_cases h4 : mj = 4 ∨ mj = 5
      · rw [if_pos h4] at h
        split at h
        · cases h
        · unfold toksL at h
          cases f with
          | none => cases h
          | some f =>
            simp only at h
            cases hr : runs f (n * (mj - 3)) (m.drop k) with
            | none => rw [hr] at h; cases h
            | some p =>
              obtain ⟨ls, r'⟩ := p
              rw [hr] at h
              simp only [Option.some.injEq, Prod.mk.injEq] at h
              obtain ⟨rfl, rfl⟩ := h
              obtain ⟨b1, b2⟩ := hrun (H f rfl) _ hr
              rw [List.length_drop] at b2
              refine ⟨fun t ht => ?_, by omega⟩
              rcases List.mem_cons.1 ht with rfl | ht
              · simp
              · have := b1 t ht
                rw [List.length_drop] at this
                omega
      · rw [if_neg h4] at h; cases h
  induction d with
  | zero => intro m r ts h; exact hstep (f := none) (fun _ e => by cases e) h
  | succ d ih => intro m r ts h; exact hstep (f := some (toks d)) (fun g e => by cases e; exact fun h => ih h) h
theorem ownToks_low {w : World} {B B' : Nat} {v : Value} {l : List Tk} (h : OwnToks w B v l) (hB : B' ≤ B) : OwnToks w B' v l := by
  obtain ⟨vs, ⟨h1, h2⟩, h3⟩ := h
  refine ⟨vs, ⟨h1, ?_⟩, h3⟩
  rcases h2 with h2 | ⟨g, cap, cur, h2, h4, h5⟩
  · exact .inl h2
  · exact .inr ⟨g, cap, cur, h2, Nat.le_trans hB h4, h5⟩
theorem dec_none_of {m : List Int} (h : toks 6 m = none ∨ ∃ l r, toks 6 m = some (l, r) ∧ (600 < l.length ∨ r ≠ [] ∨ enc l ≠ some m)) : dec m = none := by
  unfold dec
  rcases h with h | ⟨l, r, h, hx⟩
  · rw [h]
  · rw [h]
    cases r with
    | cons x y => rfl
    | nil =>
      simp only
      rw [if_neg]
      intro e
      rcases hx with hx | hx | hx
      · have := (enc_some e).1; omega
      · exact hx rfl
      · exact hx e
theorem dec_of {m : List Int} {l : List Tk} (h : enc l = some m) : dec m = some l := dec_iff.2 h
theorem dec_light {m : List Int} {l : List Tk} (h : dec m = some l) : Light l := by
  have h1 := dec_iff.1 h
  obtain ⟨h2, -, h3⟩ := enc_some h1
  have h4 := enc_toks h1 []
  rw [List.append_nil] at h4
  exact ⟨by omega, fun t ht => by have := (toks_light 6 h4).1 t ht; omega⟩
end Go.Proofs.YtaabcllghniaoaaDoor
