/- CBOR: an array's, a map's tokens one by one; append of tokens in a plain region. -/
import Derived.Test.YtaabcllghniaoaaDoorCG
import Derived.Test.YtaabcllghniaoaaDoorCN
namespace Go.Proofs.YtaabcllghniaoaaDoor
open Go Go.RowKit
theorem flat_take_le {α : Type} (zs : List (List α)) (i : Nat) : (zs.take i).flatten.length ≤ zs.flatten.length := by
  have : zs.flatten = (zs.take i).flatten ++ (zs.drop i).flatten := by rw [← List.flatten_append, List.take_append_drop]
  rw [this, List.length_append]
  omega
section
variable {f : List Int → Option (List Tk × List Int)} {b r r' : List Int} {xs : List (List Tk)} {x : List Tk} {i mj n : Nat}
theorem toksL_none (h : runs f i b = some (xs, r)) (hi : i < n * (mj - 3)) (hx : f r = none) : toksL (some f) mj n b = none := by
  unfold toksL
  simp only
  cases hr : runs f (n * (mj - 3)) b with
  | none => rfl
  | some p =>
    obtain ⟨zs, r2⟩ := p
    obtain ⟨-, h2⟩ := runs_det h hr (by omega)
    obtain ⟨j, hj⟩ : ∃ j, n * (mj - 3) - i = j + 1 := ⟨n * (mj - 3) - i - 1, by omega⟩
    rw [hj, runs, hx] at h2
    cases h2
theorem toksL_long (h : runs f i b = some (xs, r)) (hi : i < n * (mj - 3)) (hx : f r = some (x, r')) (N : Nat) (hl : 600 < N + 1 + xs.flatten.length + x.length) : toksL (some f) mj n b = none ∨ ∃ y r2, toksL (some f) mj n b = some (y, r2) ∧ 600 < N + y.length := by
  unfold toksL
  simp only
  cases hr : runs f (n * (mj - 3)) b with
  | none => exact .inl rfl
  | some p =>
    obtain ⟨zs, r2⟩ := p
    simp only
    refine .inr ⟨_, _, rfl, ?_⟩
    obtain ⟨h1, -⟩ := runs_det (runs_snoc h hx) hr (by omega)
    have := flat_take_le zs (i + 1)
    rw [h1, List.flatten_append, List.length_append] at this
    simp only [List.flatten_cons, List.flatten_nil, List.append_nil] at this
    rw [List.length_cons]
    omega
theorem toksL_all (h : runs f i b = some (xs, r)) (hi : i = n * (mj - 3)) : toksL (some f) mj n b = some (⟨(mj : Int) + 1, n, []⟩ :: xs.flatten, r) := by
  subst hi
  unfold toksL
  simp only [h]
end
theorem toksF_pos {f : Option (List Int → Option (List Tk × List Int))} {b r : List Int} {ts : List Tk} (h : toksF f b = some (ts, r)) : 0 < ts.length := by
  unfold toksF at h
  cases hg : hget b with
  | none => rw [hg] at h; cases h
  | some y =>
    obtain ⟨mj, n, k⟩ := y
    rw [hg] at h
    simp only at h
    have fin : ∀ {t : Tk} {l : List Tk} {r1 : List Int}, some (t :: l, r1) = some (ts, r) → 0 < ts.length := fun e => by
      simp only [Option.some.injEq, Prod.mk.injEq] at e
      rw [← e.1]
      simp
    by_cases h0 : mj = 0
    · rw [if_pos h0] at h; exact fin h
    rw [if_neg h0] at h
    by_cases h1 : mj = 1
    · rw [if_pos h1] at h; exact fin h
    rw [if_neg h1] at h
    by_cases h2 : mj = 2 ∨ mj = 3
    · rw [if_pos h2] at h
      split at h
      · cases h
      · exact fin h
    rw [if_neg h2] at h
    by_cases h4 : mj = 4 ∨ mj = 5
    · rw [if_pos h4] at h
      split at h
      · cases h
      · unfold toksL at h
        cases f with
        | none => cases h
        | some f =>
          simp only at h
          cases hr : runs f (n * (mj - 3)) (b.drop k) with
          | none => rw [hr] at h; cases h
          | some p =>
            obtain ⟨ls, r'⟩ := p
            rw [hr] at h
            exact fin h
    · rw [if_neg h4] at h; cases h
theorem toks_pos {d : Nat} {b r : List Int} {ts : List Tk} (h : toks d b = some (ts, r)) : 0 < ts.length := by
  cases d with
  | zero => exact toksF_pos h
  | succ d => exact toksF_pos h
/-- What is told of some bytes stands at their beginning: the rest is theirs from a place on. -/
theorem runs_rest {f : List Int → Option (List Tk × List Int)} {m : List Int} (H : ∀ q ts r, q ≤ m.length → f (m.drop q) = some (ts, r) → ∃ q', q' ≤ m.length ∧ r = m.drop q') : ∀ (k q : Nat) (xs : List (List Tk)) (r : List Int), q ≤ m.length → runs f k (m.drop q) = some (xs, r) → ∃ q', q' ≤ m.length ∧ r = m.drop q'
  | 0, q, xs, r, hq, h => by obtain ⟨rfl, rfl⟩ := runs_zero h; exact ⟨q, hq, rfl⟩
  | k + 1, q, ys, r, hq, h => by
    obtain ⟨x, r1, xs, h1, h2, rfl⟩ := runs_succ h
    obtain ⟨q1, hq1, rfl⟩ := H q _ _ hq h1
    exact runs_rest H k q1 xs r hq1 h2
theorem toksF_rest {f : Option (List Int → Option (List Tk × List Int))} {m : List Int} (bm : Bys m) (H : ∀ g, f = some g → ∀ q ts r, q ≤ m.length → g (m.drop q) = some (ts, r) → ∃ q', q' ≤ m.length ∧ r = m.drop q') {q : Nat} {ts : List Tk} {r : List Int} (hq : q ≤ m.length) (h : toksF f (m.drop q) = some (ts, r)) : ∃ q', q' ≤ m.length ∧ r = m.drop q' := by
  unfold toksF at h
  cases hg : hget (m.drop q) with
  | none => rw [hg] at h; cases h
  | some y =>
    obtain ⟨mj, n, k⟩ := y
    obtain ⟨-, -, -, hk, -⟩ := hget_some hg fun z hz => bm z (List.mem_of_mem_drop hz)
    rw [List.length_drop] at hk
    rw [hg] at h
    simp only [List.drop_drop] at h
    have fin : ∀ {t : List Tk} {p : Nat}, p ≤ m.length → some (t, m.drop p) = some (ts, r) → ∃ q', q' ≤ m.length ∧ r = m.drop q' := fun hp e => by
      simp only [Option.some.injEq, Prod.mk.injEq] at e
      exact ⟨_, hp, e.2.symm⟩
    by_cases h0 : mj = 0
    · rw [if_pos h0] at h; exact fin (by omega) h
    rw [if_neg h0] at h
    by_cases h1 : mj = 1
    · rw [if_pos h1] at h; exact fin (by omega) h
    rw [if_neg h1] at h
    by_cases h2 : mj = 2 ∨ mj = 3
    · rw [if_pos h2] at h
      by_cases hn : (m.drop (q + k)).length < n
      · rw [if_pos hn] at h; cases h
      · rw [if_neg hn] at h
        rw [List.length_drop] at hn
        exact fin (by omega) h
    rw [if_neg h2] at h
    by_cases h4 : mj = 4 ∨ mj = 5
    · rw [if_pos h4] at h
      by_cases hn : 64 < n
      · rw [if_pos hn] at h; cases h
      · rw [if_neg hn] at h
        unfold toksL at h
        cases f with
        | none => cases h
        | some f =>
          simp only at h
          cases hr : runs f (n * (mj - 3)) (m.drop (q + k)) with
          | none => rw [hr] at h; cases h
          | some p =>
            obtain ⟨ls, r'⟩ := p
            rw [hr] at h
            simp only [Option.some.injEq, Prod.mk.injEq] at h
            obtain ⟨q', hq', e⟩ := runs_rest (H f rfl) _ (q + k) ls r' (by omega) hr
            exact ⟨q', hq', h.2 ▸ e⟩
    · rw [if_neg h4] at h; cases h
theorem toks_rest {m : List Int} (bm : Bys m) : ∀ (d q : Nat) (ts : List Tk) (r : List Int), q ≤ m.length → toks d (m.drop q) = some (ts, r) → ∃ q', q' ≤ m.length ∧ r = m.drop q'
  | 0, q, _, _, hq, h => toksF_rest (f := none) bm (fun _ e => by cases e) hq h
  | d + 1, q, _, _, hq, h => toksF_rest (f := some (toks d)) bm (fun g e => by cases e; exact toks_rest bm d) hq h
/-- append of a row of tokens onto a row that the call has grown, in a plain region. -/
theorem wpList_tokapp {ops : Array Oper} {rest : List Oper} {o : Oper} {a : Act} {w : World} {Q : Exit → Act → World → Prop} (hw : Region.wanted o (yielded ops a.tmps) = true) (s x : Operand)
    (ho : o.op = .call { callee := .builtin .append, args := #[s, x], argTypes := #[22, 22] }) (base : Nat) {v : Value} {xs m : List Tk} (hs : a.eval s = v) (hown : OwnToks w base v xs)
    {sa : Option Addr} {cap n : Nat} (hx : a.eval x = .slice sa n cap) (hn : n = m.length) {P : Nat → Prop} (hm : ToksP P w sa cap m) (hP : ∀ g', P g' → ∀ g ∈ blks v, g' ≠ g) (hl : xs.length + m.length ≤ 1099511627776) (hbase : base ≤ w.heap.size)
    (h : ∀ a' c' w', OwnToks w' base (.slice a' (xs.length + m.length) c') (xs ++ m) → Below base w w' → wpList Tryd.prog ops Q rest (a.put o.dst (.slice a' (xs.length + m.length) c')) w') :
    wpList Tryd.prog ops Q (o :: rest) a w := by
  subst hn
  unfold wpList
  rw [if_pos hw]
  refine .inl (OpV.wp ?_)
  refine (tokApp_is s x ho hs hown hx hm hP hl hbase).mono fun v' w' ⟨h1, ⟨r, h2, h3⟩, _⟩ => ?_
  obtain ⟨a', c', rfl, -⟩ := h1.form
  rw [List.length_append] at h1 ⊢
  exact h a' c' w' h1 ((Below.refl base w).grown h2 hbase fun g e => hown.blk_base g (h3 g e))
end Go.Proofs.YtaabcllghniaoaaDoor
