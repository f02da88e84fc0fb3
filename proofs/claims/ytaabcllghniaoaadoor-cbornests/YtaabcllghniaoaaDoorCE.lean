/- CBOR: what is written is read, one way alone. -/
import Derived.Test.YtaabcllghniaoaaDoorCD
namespace Go.Proofs.YtaabcllghniaoaaDoor
theorem runs_cons {α β : Type} {f : List α → Option (β × List α)} {k : Nat} {l r r' : List α} {x : β} {xs : List β} (h : f l = some (x, r)) (h' : runs f k r = some (xs, r')) : runs f (k + 1) l = some (x :: xs, r') := by
  rw [runs, h]
  simp only [h']
theorem runs_succ {α β : Type} {f : List α → Option (β × List α)} {k : Nat} {l r' : List α} {ys : List β} (h : runs f (k + 1) l = some (ys, r')) : ∃ x r xs, f l = some (x, r) ∧ runs f k r = some (xs, r') ∧ ys = x :: xs := by
  rw [runs] at h
  cases hf : f l with
  | none => rw [hf] at h; cases h
  | some p =>
    obtain ⟨x, r⟩ := p
    rw [hf] at h
    simp only at h
    cases hr : runs f k r with
    | none => rw [hr] at h; cases h
    | some q =>
      obtain ⟨xs, r2⟩ := q
      rw [hr] at h
      simp only [Option.some.injEq, Prod.mk.injEq] at h
      obtain ⟨rfl, rfl⟩ := h
      exact ⟨x, r, xs, rfl, hr, rfl⟩
theorem runs_zero {α β : Type} {f : List α → Option (β × List α)} {l r : List α} {xs : List β} (h : runs f 0 l = some (xs, r)) : xs = [] ∧ r = l := by
  rw [runs] at h
  simp only [Option.some.injEq, Prod.mk.injEq] at h
  exact ⟨h.1.symm, h.2.symm⟩
theorem runs_length {α β : Type} {f : List α → Option (β × List α)} : ∀ {k : Nat} {l r : List α} {xs : List β}, runs f k l = some (xs, r) → xs.length = k
  | 0, _, _, _, h => by rw [(runs_zero h).1]; rfl
  | k + 1, _, _, _, h => by
    obtain ⟨x, r, xs, _, h2, rfl⟩ := runs_succ h
    rw [List.length_cons, runs_length h2]
/-- So many and so many more. -/
theorem runs_add {α β : Type} {f : List α → Option (β × List α)} (j : Nat) : ∀ {i : Nat} {l r : List α} {xs : List β}, runs f i l = some (xs, r) → runs f (i + j) l = (match runs f j r with
    | none => none
    | some (ys, r') => some (xs ++ ys, r'))
  | 0, l, r, xs, h => by
    obtain ⟨rfl, rfl⟩ := runs_zero h
    rw [Nat.zero_add]
    cases runs f j r with
    | none => rfl
    | some p => obtain ⟨ys, r'⟩ := p; rfl
  | i + 1, l, r, ys, h => by
    obtain ⟨x, q, xs, h1, h2, rfl⟩ := runs_succ h
    rw [show i + 1 + j = (i + j) + 1 by omega, runs, h1]
    simp only
    rw [runs_add j h2]
    cases runs f j r with
    | none => rfl
    | some p => obtain ⟨ys, r'⟩ := p; rfl
/-- A beginning of a run is one. -/
theorem runs_take {α β : Type} {f : List α → Option (β × List α)} : ∀ {k i : Nat} {l r : List α} {xs : List β}, runs f k l = some (xs, r) → i ≤ k → ∃ q, runs f i l = some (xs.take i, q)
  | k, 0, l, r, xs, _, _ => ⟨l, by rw [List.take_zero]; rfl⟩
  | k + 1, i + 1, l, r, ys, h, hi => by
    obtain ⟨x, q, xs, h1, h2, rfl⟩ := runs_succ h
    obtain ⟨q', h3⟩ := runs_take (i := i) h2 (by omega)
    exact ⟨q', by rw [List.take_succ_cons]; exact runs_cons h1 h3⟩
/-- What runs over some does over these with more behind. -/
theorem runs_app {α β : Type} {f g : List α → Option (β × List α)} (H : ∀ l x r, f l = some (x, r) → ∀ s, g (l ++ s) = some (x, r ++ s)) : ∀ {k : Nat} {l r : List α} {xs : List β}, runs f k l = some (xs, r) → ∀ s, runs g k (l ++ s) = some (xs, r ++ s)
  | 0, l, r, xs, h, s => by obtain ⟨rfl, rfl⟩ := runs_zero h; rfl
  | k + 1, l, r, ys, h, s => by
    obtain ⟨x, q, xs, h1, h2, rfl⟩ := runs_succ h
    exact runs_cons (H _ _ _ h1 s) (runs_app H h2 s)
/-- What an item is. -/
theorem itemF_some {f : Option (List Tk → Option (List Int × List Tk))} {l r : List Tk} {x : List Int} (h : itemF f l = some (x, r)) : ∃ t q, l = t :: q ∧ t.good = true ∧ ((t.k = 1 ∧ x = hd 0 t.n.toNat ∧ r = q) ∨ (t.k = 2 ∧ x = hd 1 t.n.toNat ∧ r = q) ∨ (t.k = 3 ∧ x = hd 2 t.b.length ++ t.b ∧ r = q) ∨ (t.k = 4 ∧ utf8 t.b = true ∧ x = hd 3 t.b.length ++ t.b ∧ r = q) ∨
    ∃ g xs, f = some g ∧ (t.k = 5 ∨ t.k = 6) ∧ t.n ≤ 64 ∧ runs g (howMany t.k t.n.toNat) q = some (xs, r) ∧ (t.k = 6 → keysUp xs = true) ∧ x = hd (if t.k = 5 then 4 else 5) t.n.toNat ++ xs.flatten) := by
  cases l with
  | nil => cases h
  | cons t q =>
    rw [itemF_cons] at h
    by_cases hg : t.good = false
    · rw [if_pos hg] at h; cases h
    rw [if_neg hg] at h
    refine ⟨t, q, rfl, by simpa using hg, ?_⟩
    by_cases h1 : t.k = 1
    · rw [if_pos h1] at h
      simp only [Option.some.injEq, Prod.mk.injEq] at h
      exact .inl ⟨h1, h.1.symm, h.2.symm⟩
    rw [if_neg h1] at h
    by_cases h2 : t.k = 2
    · rw [if_pos h2] at h
      simp only [Option.some.injEq, Prod.mk.injEq] at h
      exact .inr (.inl ⟨h2, h.1.symm, h.2.symm⟩)
    rw [if_neg h2] at h
    by_cases h3 : t.k = 3
    · rw [if_pos h3] at h
      simp only [Option.some.injEq, Prod.mk.injEq] at h
      exact .inr (.inr (.inl ⟨h3, h.1.symm, h.2.symm⟩))
    rw [if_neg h3] at h
    by_cases h4 : t.k = 4
    · rw [if_pos h4] at h
      by_cases hu : utf8 t.b
      · rw [if_pos hu] at h
        simp only [Option.some.injEq, Prod.mk.injEq] at h
        exact .inr (.inr (.inr (.inl ⟨h4, hu, h.1.symm, h.2.symm⟩)))
      · rw [if_neg hu] at h; cases h
    rw [if_neg h4] at h
    by_cases h5 : t.k = 5 ∨ t.k = 6
    · rw [if_pos h5] at h
      by_cases hn : 64 < t.n
      · rw [if_pos hn] at h; cases h
      rw [if_neg hn] at h
      cases f with
      | none => cases h
      | some g =>
        unfold itemL at h
        simp only at h
        cases hr : runs g (howMany t.k t.n.toNat) q with
        | none => rw [hr] at h; cases h
        | some p =>
          obtain ⟨xs, r'⟩ := p
          rw [hr] at h
          simp only at h
          by_cases hk : t.k = 6 ∧ keysUp xs = false
          · rw [if_pos hk] at h; cases h
          rw [if_neg hk] at h
          simp only [Option.some.injEq, Prod.mk.injEq] at h
          obtain ⟨rfl, rfl⟩ := h
          exact .inr (.inr (.inr (.inr ⟨g, xs, rfl, h5, by omega, hr, fun h6 => by
            cases hku : keysUp xs with
            | false => exact absurd ⟨h6, hku⟩ hk
            | true => rfl, rfl⟩)))
    · rw [if_neg h5] at h; cases h
theorem itemF_list {g : List Tk → Option (List Int × List Tk)} {t : Tk} {q r : List Tk} {xs : List (List Int)} (hg : t.good = true) (hk : t.k = 5 ∨ t.k = 6) (hn : t.n ≤ 64) (hr : runs g (howMany t.k t.n.toNat) q = some (xs, r)) (hu : t.k = 6 → keysUp xs = true) : itemF (some g) (t :: q) = some (hd (if t.k = 5 then 4 else 5) t.n.toNat ++ xs.flatten, r) := by
  rw [itemF_cons, if_neg (by rw [hg]; exact Bool.noConfusion), if_neg (by omega), if_neg (by omega), if_neg (by omega), if_neg (by omega), if_pos hk, if_neg (by omega), itemL]
  simp only [hr]
  rw [if_neg]
  rintro ⟨h6, h7⟩
  rw [hu h6] at h7
  cases h7
theorem itemF_app {f g : Option (List Tk → Option (List Int × List Tk))} (H : ∀ a, f = some a → ∃ b, g = some b ∧ ∀ l x r, a l = some (x, r) → ∀ s, b (l ++ s) = some (x, r ++ s)) {l r : List Tk} {x : List Int} (h : itemF f l = some (x, r)) (s : List Tk) : itemF g (l ++ s) = some (x, r ++ s) := by
  obtain ⟨t, q, rfl, hg, h⟩ := itemF_some h
  have hg' : ¬ t.good = false := by rw [hg]; exact Bool.noConfusion
  rw [List.cons_append]
  rcases h with ⟨h1, rfl, rfl⟩ | ⟨h1, rfl, rfl⟩ | ⟨h1, rfl, rfl⟩ | ⟨h1, hu, rfl, rfl⟩ | ⟨a, xs, rfl, h1, hn, hr, hu, rfl⟩
  · rw [itemF_cons, if_neg hg', if_pos h1]
  · rw [itemF_cons, if_neg hg', if_neg (by omega), if_pos h1]
  · rw [itemF_cons, if_neg hg', if_neg (by omega), if_neg (by omega), if_pos h1]
  · rw [itemF_cons, if_neg hg', if_neg (by omega), if_neg (by omega), if_neg (by omega), if_pos h1, if_pos hu]
  · obtain ⟨b, rfl, hb⟩ := H a rfl
    exact itemF_list hg h1 hn (runs_app hb hr s) hu
/-- With more behind an item is the same; so it is where it may be deeper. -/
theorem item_app : ∀ {d : Nat} {l r : List Tk} {x : List Int}, item d l = some (x, r) → ∀ s, item d (l ++ s) = some (x, r ++ s)
  | 0, _, _, _, h, s => itemF_app (f := none) (g := none) (fun _ e => by cases e) h s
  | d + 1, _, _, _, h, s => itemF_app (f := some (item d)) (g := some (item d)) (fun a e => ⟨item d, rfl, by cases e; exact fun l x r h => item_app h⟩) h s
theorem item_more : ∀ {d : Nat} {l r : List Tk} {x : List Int}, item d l = some (x, r) → ∀ s, item (d + 1) (l ++ s) = some (x, r ++ s)
  | 0, _, _, _, h, s => itemF_app (f := none) (g := some (item 0)) (fun _ e => by cases e) h s
  | d + 1, _, _, _, h, s => itemF_app (f := some (item d)) (g := some (item (d + 1))) (fun a e => ⟨item (d + 1), rfl, by cases e; exact fun l x r h => item_more h⟩) h s
theorem item_up {d : Nat} {l r : List Tk} {x : List Int} (h : item d l = some (x, r)) : item (d + 1) l = some (x, r) := by
  have := item_more h []
  rwa [List.append_nil, List.append_nil] at this
theorem hd_pos (mj n : Nat) : 0 < (hd mj n).length := by rw [hd_length]; omega
theorem item_pos {d : Nat} {l r : List Tk} {x : List Int} (h : item d l = some (x, r)) : 0 < x.length := by
  have : ∃ f, itemF f l = some (x, r) := by cases d <;> exact ⟨_, h⟩
  obtain ⟨f, h⟩ := this
  obtain ⟨t, q, -, -, h⟩ := itemF_some h
  rcases h with ⟨_, rfl, _⟩ | ⟨_, rfl, _⟩ | ⟨_, rfl, _⟩ | ⟨_, _, rfl, _⟩ | ⟨_, _, _, _, _, _, _, rfl⟩
  · exact hd_pos _ _
  · exact hd_pos _ _
  · rw [List.length_append]; have := hd_pos 2 t.b.length; omega
  · rw [List.length_append]; have := hd_pos 3 t.b.length; omega
  · rw [List.length_append]; have := hd_pos (if t.k = 5 then 4 else 5) t.n.toNat; omega
theorem good_num {t : Tk} (h : t.good = true) : 0 ≤ t.n ∧ t.n < 9223372036854775808 ∧ t.b.length < 9223372036854775808 := by
  have := of_decide_eq_true h
  exact this.2.2
theorem good_plain {t : Tk} (h : t.good = true) (hk : ¬ (t.k = 3 ∨ t.k = 4)) : t.b = [] := by
  have := (of_decide_eq_true h).2.1
  exact List.eq_nil_of_length_eq_zero (by omega)
theorem good_bytes {t : Tk} (h : t.good = true) (hk : t.k = 3 ∨ t.k = 4) : t.n = 0 := by
  have := (of_decide_eq_true h).1
  omega
theorem toksF_hd {f : Option (List Int → Option (List Tk × List Int))} {mj n : Nat} (hn : n < 9223372036854775808) (y : List Int) : toksF f (hd mj n ++ y) =
    if mj = 0 then some ([⟨1, n, []⟩], y)
    else if mj = 1 then some ([⟨2, n, []⟩], y)
    else if mj = 2 ∨ mj = 3 then (if y.length < n then none else some ([⟨(mj : Int) + 1, 0, y.take n⟩], y.drop n))
    else if mj = 4 ∨ mj = 5 then
      (if 64 < n then none else toksL f mj n y)
    else none := by
  have e : (hd mj n ++ y).drop (1 + hsize n) = y := List.drop_left' (hd_length _ _)
  unfold toksF
  rw [hget_hd hn]
  simp only [e]
theorem runs_toks {f : List Tk → Option (List Int × List Tk)} {g : List Int → Option (List Tk × List Int)} (H : ∀ l x r, f l = some (x, r) → ∃ p, l = p ++ r ∧ ∀ y, g (x ++ y) = some (p, y)) : ∀ {k : Nat} {l r : List Tk} {xs : List (List Int)}, runs f k l = some (xs, r) → ∃ ps, l = ps.flatten ++ r ∧ ∀ y, runs g k (xs.flatten ++ y) = some (ps, y)
  | 0, l, r, xs, h => by obtain ⟨rfl, rfl⟩ := runs_zero h; exact ⟨[], rfl, fun y => rfl⟩
  | k + 1, l, r, ys, h => by
    obtain ⟨x, q, xs, h1, h2, rfl⟩ := runs_succ h
    obtain ⟨p, rfl, hp⟩ := H _ _ _ h1
    obtain ⟨ps, rfl, hps⟩ := runs_toks H h2
    exact ⟨p :: ps, by rw [List.flatten_cons, List.append_assoc], fun y => by
      rw [List.flatten_cons, List.append_assoc]
      exact runs_cons (hp _) (hps y)⟩
theorem itemF_toks {f : Option (List Tk → Option (List Int × List Tk))} {g : Option (List Int → Option (List Tk × List Int))} (H : ∀ a, f = some a → ∃ b, g = some b ∧ ∀ l x r, a l = some (x, r) → ∃ p, l = p ++ r ∧ ∀ y, b (x ++ y) = some (p, y)) {l r : List Tk} {x : List Int} (h : itemF f l = some (x, r)) : ∃ p, l = p ++ r ∧ ∀ y, toksF g (x ++ y) = some (p, y) := by
  obtain ⟨t, q, rfl, hg, h⟩ := itemF_some h
  have hb := good_num hg
  have hn : t.n.toNat < 9223372036854775808 := by omega
  have en : ((t.n.toNat : Nat) : Int) = t.n := Int.toNat_of_nonneg hb.1
  rcases h with ⟨h1, rfl, rfl⟩ | ⟨h1, rfl, rfl⟩ | ⟨h1, rfl, rfl⟩ | ⟨h1, hu, rfl, rfl⟩ | ⟨a, xs, rfl, h1, hn', hr, hu, rfl⟩
  · refine ⟨[t], rfl, fun y => ?_⟩
    rw [toksF_hd hn, if_pos rfl, en, ← h1, ← good_plain hg (by omega)]
  · refine ⟨[t], rfl, fun y => ?_⟩
    rw [toksF_hd hn, if_neg (by decide), if_pos rfl, en, ← h1, ← good_plain hg (by omega)]
  · refine ⟨[t], rfl, fun y => ?_⟩
    rw [List.append_assoc, toksF_hd hb.2.2, if_neg (by decide), if_neg (by decide), if_pos (.inl rfl), if_neg (by rw [List.length_append]; omega), List.take_left, List.drop_left]
    obtain ⟨k, n, b⟩ := t
    obtain rfl : k = 3 := h1
    obtain rfl : n = 0 := good_bytes hg (.inl rfl)
    rfl
  · refine ⟨[t], rfl, fun y => ?_⟩
    rw [List.append_assoc, toksF_hd hb.2.2, if_neg (by decide), if_neg (by decide), if_pos (.inr rfl), if_neg (by rw [List.length_append]; omega), List.take_left, List.drop_left]
    obtain ⟨k, n, b⟩ := t
    obtain rfl : k = 4 := h1
    obtain rfl : n = 0 := good_bytes hg (.inr rfl)
    rfl
  · obtain ⟨b, rfl, hb'⟩ := H a rfl
    obtain ⟨ps, rfl, hps⟩ := runs_toks hb' hr
    refine ⟨t :: ps.flatten, rfl, fun y => ?_⟩
    have hpl := good_plain hg (by omega)
    obtain ⟨k, n, bb⟩ := t
    simp only at *
    subst hpl
    rw [List.append_assoc]
    rcases h1 with rfl | rfl
    · rw [if_pos rfl, toksF_hd hn, if_neg (by decide), if_neg (by decide), if_neg (by decide), if_pos (.inl rfl), if_neg (by omega), toksL]
      have e : howMany 5 n.toNat = n.toNat * (4 - 3) := by unfold howMany; rw [if_pos rfl]; omega
      rw [e] at hps
      simp only [hps y, en]
      rfl
    · rw [if_neg (by decide), toksF_hd hn, if_neg (by decide), if_neg (by decide), if_neg (by decide), if_pos (.inr rfl), if_neg (by omega), toksL]
      have e : howMany 6 n.toNat = n.toNat * (5 - 3) := by unfold howMany; rw [if_neg (by decide)]; omega
      rw [e] at hps
      simp only [hps y, en]
      rfl
/-- An item's bytes are told as its tokens, whatever stands behind. -/
theorem item_toks : ∀ {d : Nat} {l r : List Tk} {x : List Int}, item d l = some (x, r) → ∃ p, l = p ++ r ∧ ∀ y, toks d (x ++ y) = some (p, y)
  | 0, _, _, _, h => itemF_toks (f := none) (g := none) (fun _ e => by cases e) h
  | d + 1, _, _, _, h => itemF_toks (f := some (item d)) (g := some (toks d)) (fun a e => ⟨toks d, rfl, by cases e; exact fun l x r h => item_toks h⟩) h
theorem enc_some {l : List Tk} {x : List Int} (h : enc l = some x) : l.length ≤ 600 ∧ item 6 l = some (x, []) ∧ x.length ≤ 32768 := by
  unfold enc at h
  by_cases h1 : 600 < l.length
  · rw [if_pos h1] at h; cases h
  rw [if_neg h1] at h
  cases hi : item 6 l with
  | none => rw [hi] at h; cases h
  | some p =>
    obtain ⟨y, r⟩ := p
    rw [hi] at h
    cases r with
    | cons a b => cases h
    | nil =>
      simp only at h
      by_cases h2 : 32768 < y.length
      · rw [if_pos h2] at h; cases h
      · rw [if_neg h2] at h
        obtain rfl := Option.some.inj h
        exact ⟨by omega, rfl, by omega⟩
theorem enc_of {l : List Tk} {x : List Int} (h1 : l.length ≤ 600) (h2 : item 6 l = some (x, [])) (h3 : x.length ≤ 32768) : enc l = some x := by
  unfold enc
  rw [if_neg (by omega), h2]
  simp only
  rw [if_neg (by omega)]
theorem enc_toks {l : List Tk} {x : List Int} (h : enc l = some x) (y : List Int) : toks 6 (x ++ y) = some (l, y) := by
  obtain ⟨-, h2, -⟩ := enc_some h
  obtain ⟨p, e, hp⟩ := item_toks h2
  rw [List.append_nil] at e
  subst e
  exact hp y
theorem enc_pos {l : List Tk} {x : List Int} (h : enc l = some x) : 0 < x.length := item_pos (enc_some h).2.1
theorem enc_inj {l k : List Tk} {x : List Int} (h : enc l = some x) (h' : enc k = some x) : l = k := by
  have h1 := enc_toks h []
  rw [enc_toks h' []] at h1
  simp only [Option.some.injEq, Prod.mk.injEq, and_true] at h1
  exact h1.symm
theorem dec_iff {b : List Int} {l : List Tk} : dec b = some l ↔ enc l = some b := by
  constructor
  · intro h
    unfold dec at h
    cases ht : toks 6 b with
    | none => rw [ht] at h; cases h
    | some p =>
      obtain ⟨k, r⟩ := p
      rw [ht] at h
      cases r with
      | cons a q => cases h
      | nil =>
        simp only at h
        by_cases he : enc k = some b
        · rw [if_pos he] at h
          obtain rfl := Option.some.inj h
          exact he
        · rw [if_neg he] at h; cases h
  · intro h
    have := enc_toks h []
    rw [List.append_nil] at this
    unfold dec
    rw [this]
    simp only
    rw [if_pos h]
/-- Cut short, or with more behind, bytes are none. -/
theorem dec_cut {l : List Tk} {x : List Int} (h : enc l = some x) {q : Nat} (hq : q < x.length) : dec (x.take q) = none := by
  cases hd : dec (x.take q) with
  | none => rfl
  | some k =>
    have h1 := enc_toks (dec_iff.1 hd) (x.drop q)
    have h2 := enc_toks h []
    rw [List.take_append_drop] at h1
    rw [List.append_nil, h1] at h2
    simp only [Option.some.injEq, Prod.mk.injEq] at h2
    have := congrArg List.length h2.2
    rw [List.length_drop, List.length_nil] at this
    omega
theorem dec_more {l : List Tk} {x : List Int} (h : enc l = some x) (m : Int) : dec (x ++ [m]) = none := by
  cases hd : dec (x ++ [m]) with
  | none => rfl
  | some k =>
    have h1 := enc_toks (dec_iff.1 hd) []
    have h2 := enc_toks h [m]
    rw [List.append_nil, h2] at h1
    simp only [Option.some.injEq, Prod.mk.injEq] at h1
    have := congrArg List.length h1.2
    simp at this
theorem dec_nil : dec [] = none := by
  cases hd : dec [] with
  | none => rfl
  | some k =>
    have := enc_pos (dec_iff.1 hd)
    simp at this
end Go.Proofs.YtaabcllghniaoaaDoor
