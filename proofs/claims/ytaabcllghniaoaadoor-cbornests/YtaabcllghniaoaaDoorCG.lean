/- CBOR: an array's, a map's items one by one. -/
import Derived.Test.YtaabcllghniaoaaDoorCE
namespace Go.Proofs.YtaabcllghniaoaaDoor
theorem keysUp_app_false : ∀ {xs : List (List Int)} (ys : List (List Int)), keysUp xs = false → keysUp (xs ++ ys) = false
  | [], _, h => by cases h
  | [_], _, h => by cases h
  | [_, _], _, h => by cases h
  | a :: c :: b :: r, ys, h => by
    rw [keysUp] at h
    show keysUp (a :: c :: b :: (r ++ ys)) = false
    rw [keysUp]
    cases ha : ahead a b with
    | false => rfl
    | true =>
      rw [ha, Bool.true_and] at h
      rw [Bool.true_and]
      exact keysUp_app_false (xs := b :: r) ys h
theorem keysUp_value : ∀ {xs : List (List Int)} (v : List Int), xs.length % 2 = 1 → keysUp (xs ++ [v]) = keysUp xs
  | [], _, h => absurd h (by decide)
  | [_], _, _ => rfl
  | [_, _], _, h => absurd h (by simp)
  | a :: c :: b :: r, v, h => by
    show keysUp (a :: c :: b :: (r ++ [v])) = _
    rw [keysUp, keysUp]
    congr 1
    exact keysUp_value (xs := b :: r) v (by simp only [List.length_cons] at h ⊢; omega)
theorem keysUp_key : ∀ {xs : List (List Int)} (k : List Int), xs.length % 2 = 0 → 0 < xs.length → keysUp (xs ++ [k]) = (keysUp xs && ahead (xs.getD (xs.length - 2) []) k)
  | [], _, _, h => absurd h (by decide)
  | [_], _, h, _ => absurd h (by simp)
  | [a, c], k, _, _ => by
    show (ahead a k && keysUp [k]) = (true && ahead a k)
    rw [Bool.true_and]
    exact Bool.and_true _
  | [a, c, b], k, h, _ => absurd h (by simp)
  | a :: c :: b :: d :: r, k, h, _ => by
    have ih := keysUp_key (xs := b :: d :: r) k (by simp only [List.length_cons] at h ⊢; omega) (by simp)
    show keysUp (a :: c :: b :: (d :: r ++ [k])) = _
    rw [keysUp, show b :: (d :: r ++ [k]) = b :: d :: r ++ [k] from rfl, ih, keysUp, Bool.and_assoc]
    congr 3
theorem runs_det {α β : Type} {f : List α → Option (β × List α)} {i n : Nat} {q r r' : List α} {xs zs : List β} (h : runs f i q = some (xs, r)) (h' : runs f n q = some (zs, r')) (hi : i ≤ n) : zs.take i = xs ∧ runs f (n - i) r = some (zs.drop i, r') := by
  obtain ⟨j, rfl⟩ : ∃ j, n = i + j := ⟨n - i, by omega⟩
  rw [runs_add j h] at h'
  cases hr : runs f j r with
  | none => rw [hr] at h'; cases h'
  | some p =>
    obtain ⟨ys, r2⟩ := p
    rw [hr] at h'
    simp only [Option.some.injEq, Prod.mk.injEq] at h'
    obtain ⟨rfl, rfl⟩ := h'
    have := runs_length h
    subst this
    rw [List.take_left, List.drop_left, Nat.add_sub_cancel_left, hr]
    exact ⟨rfl, rfl⟩
/-- One item more in a run. -/
theorem runs_snoc {α β : Type} {f : List α → Option (β × List α)} {i : Nat} {q r r' : List α} {xs : List β} {x : β} (h : runs f i q = some (xs, r)) (hx : f r = some (x, r')) : runs f (i + 1) q = some (xs ++ [x], r') := by
  rw [runs_add 1 h, runs_cons hx (show runs f 0 r' = some ([], r') from rfl)]
theorem flatten_take_le (zs : List (List Int)) (i : Nat) : (zs.take i).flatten.length ≤ zs.flatten.length := by
  have : zs.flatten = (zs.take i).flatten ++ (zs.drop i).flatten := by rw [← List.flatten_append, List.take_append_drop]
  rw [this, List.length_append]
  omega
section
variable {f : List Tk → Option (List Int × List Tk)} {t : Tk} {q r r' : List Tk} {xs : List (List Int)} {x : List Int} {i : Nat}
/-- An item within is none: so is the whole. -/
theorem itemL_none (h : runs f i q = some (xs, r)) (hi : i < howMany t.k t.n.toNat) (hx : f r = none) : itemL (some f) t q = none := by
  unfold itemL
  simp only
  cases hr : runs f (howMany t.k t.n.toNat) q with
  | none => rfl
  | some p =>
    obtain ⟨zs, r2⟩ := p
    obtain ⟨-, h2⟩ := runs_det h hr (by omega)
    obtain ⟨j, hj⟩ : ∃ j, howMany t.k t.n.toNat - i = j + 1 := ⟨howMany t.k t.n.toNat - i - 1, by omega⟩
    rw [hj, runs, hx] at h2
    cases h2
/-- The items come to too many bytes: the whole is none, or too long. -/
theorem itemL_long (h : runs f i q = some (xs, r)) (hi : i < howMany t.k t.n.toNat) (hx : f r = some (x, r')) (mj : Nat) (hmj : mj = if t.k = 5 then 4 else 5) (hl : 32768 < (hd mj t.n.toNat ++ xs.flatten).length + x.length) : itemL (some f) t q = none ∨ ∃ y r2, itemL (some f) t q = some (y, r2) ∧ 32768 < y.length := by
  unfold itemL
  simp only
  cases hr : runs f (howMany t.k t.n.toNat) q with
  | none => exact .inl rfl
  | some p =>
    obtain ⟨zs, r2⟩ := p
    simp only
    by_cases hk : t.k = 6 ∧ keysUp zs = false
    · rw [if_pos hk]
      exact .inl rfl
    · rw [if_neg hk]
      refine .inr ⟨_, _, rfl, ?_⟩
      obtain ⟨h1, -⟩ := runs_det (runs_snoc h hx) hr (by omega)
      have := flatten_take_le zs (i + 1)
      rw [h1, List.flatten_append, List.length_append] at this
      rw [← hmj]
      rw [List.length_append] at hl ⊢
      simp only [List.flatten_cons, List.flatten_nil, List.append_nil] at this
      omega
/-- A key that does not rise: the whole is none. -/
theorem itemL_order (h : runs f i q = some (xs, r)) (hi : i < howMany t.k t.n.toNat) (hx : f r = some (x, r')) (hk : t.k = 6) (hu : keysUp (xs ++ [x]) = false) : itemL (some f) t q = none := by
  unfold itemL
  simp only
  cases hr : runs f (howMany t.k t.n.toNat) q with
  | none => rfl
  | some p =>
    obtain ⟨zs, r2⟩ := p
    simp only
    rw [if_pos]
    obtain ⟨h1, -⟩ := runs_det (runs_snoc h hx) hr (by omega)
    have h2 := keysUp_app_false (zs.drop (i + 1)) hu
    rw [← h1, List.take_append_drop] at h2
    exact ⟨hk, h2⟩
/-- All items are there. -/
theorem itemL_all (h : runs f i q = some (xs, r)) (hi : i = howMany t.k t.n.toNat) (hu : t.k = 6 → keysUp xs = true) : itemL (some f) t q = some (hd (if t.k = 5 then 4 else 5) t.n.toNat ++ xs.flatten, r) := by
  subst hi
  unfold itemL
  simp only [h]
  rw [if_neg]
  rintro ⟨h6, h7⟩
  rw [hu h6] at h7
  cases h7
end
end Go.Proofs.YtaabcllghniaoaaDoor
