/- CBOR: what the laws say of items. -/
import Derived.Test.YtaabcllghniaoaaDoorCE
namespace Go.Proofs.YtaabcllghniaoaaDoor
/-- Of three rows an array's bytes are its head, and their bytes. -/
theorem enc_three {a b c : List Tk} {x y z w : List Int} (ha : enc a = some x) (hb : enc b = some y) (hc : enc c = some z) (h : enc (⟨5, 3, []⟩ :: (a ++ b ++ c)) = some w) : w = 131 :: (x ++ y ++ z) := by
  have ia := fun s => item_app (enc_some ha).2.1 s
  have ib := fun s => item_app (enc_some hb).2.1 s
  have ic := fun s => item_app (enc_some hc).2.1 s
  simp only [List.nil_append] at ia ib ic
  obtain ⟨-, hi, -⟩ := enc_some h
  obtain ⟨t, q, e, hg, hi⟩ := itemF_some (show itemF (some (item 5)) _ = _ from hi)
  obtain ⟨rfl, rfl⟩ := List.cons.inj e
  rcases hi with ⟨h1, -⟩ | ⟨h1, -⟩ | ⟨h1, -⟩ | ⟨h1, -⟩ | ⟨g, xs, hg', -, -, hr, -, rfl⟩
  · exact absurd h1 (by decide)
  · exact absurd h1 (by decide)
  · exact absurd h1 (by decide)
  · exact absurd h1 (by decide)
  · obtain rfl := Option.some.inj hg'
    have hr3 : runs (item 5) (2 + 1) (a ++ b ++ c) = some (xs, []) := hr
    obtain ⟨x1, r1, xs1, e1, hr2, ex1⟩ := runs_succ hr3
    obtain ⟨x2, r2, xs2, e2, hr1, ex2⟩ := runs_succ hr2
    obtain ⟨x3, r3, xs3, e3, hr0, ex3⟩ := runs_succ hr1
    have ex4 := (runs_zero hr0).1
    subst ex4 ex3 ex2 ex1
    have u1 := item_up e1
    rw [List.append_assoc, ia] at u1
    simp only [Option.some.injEq, Prod.mk.injEq] at u1
    obtain ⟨rfl, rfl⟩ := u1
    have u2 := item_up e2
    rw [ib] at u2
    simp only [Option.some.injEq, Prod.mk.injEq] at u2
    obtain ⟨rfl, rfl⟩ := u2
    have u3 := item_up e3
    have := ic []
    rw [List.append_nil] at this
    rw [this] at u3
    simp only [Option.some.injEq, Prod.mk.injEq] at u3
    obtain ⟨rfl, rfl⟩ := u3
    simp only [List.flatten_cons, List.flatten_nil, List.append_nil, List.append_assoc]
    rfl
/-- A run that ends where nothing is left has its own number. -/
theorem runs_exact {α β : Type} {f : List α → Option (β × List α)} (h0 : f [] = none) {i j : Nat} {l : List α} {xs ys : List β} (h : runs f i l = some (xs, [])) (h' : runs f j l = some (ys, [])) : i = j := by
  have key : ∀ {i j : Nat} {xs ys : List β}, runs f i l = some (xs, []) → runs f j l = some (ys, []) → ¬ i < j := fun {i j xs ys} h h' hij => by
    obtain ⟨k, rfl⟩ : ∃ k, j = i + (k + 1) := ⟨j - i - 1, by omega⟩
    rw [runs_add (k + 1) h] at h'
    rw [runs, h0] at h'
    cases h'
  have h1 := key h h'
  have h2 := key h' h
  omega
theorem item_nil (d : Nat) : item d [] = none := by cases d <;> rfl
theorem toks_nil (d : Nat) : toks d [] = none := by cases d <;> rfl
/-- An array, or a map, that says another number than stands in it is none. -/
theorem enc_other {t : Tk} {q : List Tk} {x : List Int} (h : enc (t :: q) = some x) (hk : t.k = 5 ∨ t.k = 6) {n : Int} (hn : n ≠ t.n) (h0 : 0 ≤ n) : enc (⟨t.k, n, t.b⟩ :: q) = none := by
  cases he : enc (⟨t.k, n, t.b⟩ :: q) with
  | none => rfl
  | some y =>
    obtain ⟨-, hi, -⟩ := enc_some h
    obtain ⟨-, hi', -⟩ := enc_some he
    obtain ⟨t', q', e, hg, hi⟩ := itemF_some (show itemF (some (item 5)) _ = _ from hi)
    obtain ⟨rfl, rfl⟩ := List.cons.inj e
    obtain ⟨t'', q'', e, hg', hi'⟩ := itemF_some (show itemF (some (item 5)) _ = _ from hi')
    obtain ⟨rfl, rfl⟩ := List.cons.inj e
    have hb := good_num hg
    rcases hi with ⟨h1, -⟩ | ⟨h1, -⟩ | ⟨h1, -⟩ | ⟨h1, -⟩ | ⟨g, xs, hs, -, -, hr, -, -⟩
    · omega
    · omega
    · omega
    · omega
    rcases hi' with ⟨h1, -⟩ | ⟨h1, -⟩ | ⟨h1, -⟩ | ⟨h1, -⟩ | ⟨g', ys, hs', -, -, hr', -, -⟩
    · simp only at h1; omega
    · simp only at h1; omega
    · simp only at h1; omega
    · simp only at h1; omega
    obtain rfl := Option.some.inj hs
    obtain rfl := Option.some.inj hs'
    have := runs_exact (item_nil 5) hr hr'
    have e3 : (⟨t.k, n, t.b⟩ : Tk).n = n := rfl
    have e4 : (⟨t.k, n, t.b⟩ : Tk).k = t.k := rfl
    rw [e3, e4] at this
    unfold howMany at this
    split at this <;> omega
/-- Its bytes likewise. -/
theorem dec_other {t : Tk} {q : List Tk} {x : List Int} (h : enc (t :: q) = some x) (hk : t.k = 5 ∨ t.k = 6) {n : Nat} (hn : (n : Int) ≠ t.n) (h64 : n < 24) (ht : t.n < 24) : ∃ y, x = hd (if t.k = 5 then 4 else 5) t.n.toNat ++ y ∧ dec (hd (if t.k = 5 then 4 else 5) n ++ y) = none := by
  obtain ⟨-, hi, -⟩ := enc_some h
  obtain ⟨t', q', e, hg, hi⟩ := itemF_some (show itemF (some (item 5)) _ = _ from hi)
  obtain ⟨rfl, rfl⟩ := List.cons.inj e
  have hb := good_num hg
  rcases hi with ⟨h1, -⟩ | ⟨h1, -⟩ | ⟨h1, -⟩ | ⟨h1, -⟩ | ⟨g, xs, hs, -, -, hr, -, rfl⟩
  · omega
  · omega
  · omega
  · omega
  obtain rfl := Option.some.inj hs
  obtain ⟨ps, -, hps⟩ := runs_toks (g := toks 5) (fun l x r h => item_toks h) hr
  have hps := hps []
  rw [List.append_nil] at hps
  refine ⟨xs.flatten, rfl, ?_⟩
  cases hd' : dec (hd (if t.k = 5 then 4 else 5) n ++ xs.flatten) with
  | none => rfl
  | some k =>
    have h1 := enc_toks (dec_iff.1 hd') []
    rw [List.append_nil] at h1
    have h1 : toksF (some (toks 5)) _ = _ := h1
    rw [toksF_hd (by omega)] at h1
    rcases hk with e | e
    · rw [e] at hps
      rw [if_pos e, if_neg (by decide), if_neg (by decide), if_neg (by decide), if_pos (.inl rfl), if_neg (by omega), toksL] at h1
      cases hr2 : runs (toks 5) (n * (4 - 3)) xs.flatten with
      | none => rw [hr2] at h1; cases h1
      | some p =>
        obtain ⟨ls, r'⟩ := p
        rw [hr2] at h1
        simp only [Option.some.injEq, Prod.mk.injEq] at h1
        obtain ⟨-, rfl⟩ := h1
        have := runs_exact (toks_nil 5) hps hr2
        unfold howMany at this
        rw [if_pos rfl] at this
        omega
    · rw [e] at hps
      rw [if_neg (show ¬ t.k = 5 by omega), if_neg (by decide), if_neg (by decide), if_neg (by decide), if_pos (.inr rfl), if_neg (by omega), toksL] at h1
      cases hr2 : runs (toks 5) (n * (5 - 3)) xs.flatten with
      | none => rw [hr2] at h1; cases h1
      | some p =>
        obtain ⟨ls, r'⟩ := p
        rw [hr2] at h1
        simp only [Option.some.injEq, Prod.mk.injEq] at h1
        obtain ⟨-, rfl⟩ := h1
        have := runs_exact (toks_nil 5) hps hr2
        unfold howMany at this
        rw [if_neg (by decide)] at this
        omega
/-- One token alone. -/
theorem enc_int {n : Nat} (h : n < 9223372036854775808) : enc [⟨1, n, []⟩] = some (hd 0 n) := by
  have hg : (⟨1, n, []⟩ : Tk).good = true := decide_eq_true ⟨by simp, by simp, by simp, by simp only; omega, by simp⟩
  refine enc_of (by simp) (show itemF _ _ = _ by rw [itemF_cons, if_neg (by rw [hg]; exact Bool.noConfusion), if_pos rfl]; rfl) ?_
  rw [hd_length]
  have := hsize_le n
  omega
theorem enc_neg {n : Nat} (h : n < 9223372036854775808) : enc [⟨2, n, []⟩] = some (hd 1 n) := by
  have hg : (⟨2, n, []⟩ : Tk).good = true := decide_eq_true ⟨by simp, by simp, by simp, by simp only; omega, by simp⟩
  refine enc_of (by simp) (show itemF _ _ = _ by rw [itemF_cons, if_neg (by rw [hg]; exact Bool.noConfusion), if_neg (show ¬ (2 : Int) = 1 by decide), if_pos rfl]; rfl) ?_
  rw [hd_length]
  have := hsize_le n
  omega
theorem enc_bytes (b : List Int) : enc [⟨3, 0, b⟩] = if (hd 2 b.length ++ b).length ≤ 32768 then some (hd 2 b.length ++ b) else none := by
  by_cases hl : b.length < 9223372036854775808
  · have hg : (⟨3, 0, b⟩ : Tk).good = true := decide_eq_true ⟨by simp, by simp, by simp, by simp, hl⟩
    have hi : item 6 [⟨3, 0, b⟩] = some (hd 2 b.length ++ b, []) := show itemF _ _ = _ by rw [itemF_cons, if_neg (by rw [hg]; exact Bool.noConfusion), if_neg (show ¬ (3 : Int) = 1 by decide), if_neg (show ¬ (3 : Int) = 2 by decide), if_pos rfl]
    by_cases h : (hd 2 b.length ++ b).length ≤ 32768
    · rw [if_pos h]
      exact enc_of (by simp) hi h
    · rw [if_neg h]
      unfold enc
      rw [if_neg (by simp), hi]
      simp only
      rw [if_pos (by omega)]
  · rw [if_neg (by rw [List.length_append]; omega)]
    have hg : (⟨3, 0, b⟩ : Tk).good = false := decide_eq_false (fun h => hl h.2.2.2.2)
    have hi : item 6 [⟨3, 0, b⟩] = none := show itemF _ _ = _ by rw [itemF_cons, if_pos hg]
    unfold enc
    rw [if_neg (by simp), hi]
theorem enc_text {b : List Int} (hl : b.length ≤ 1000) : enc [⟨4, 0, b⟩] = if utf8 b = true then some (hd 3 b.length ++ b) else none := by
  have hg : (⟨4, 0, b⟩ : Tk).good = true := decide_eq_true ⟨by simp, by simp, by simp, by simp, by simp only; omega⟩
  have hi : item 6 [⟨4, 0, b⟩] = if utf8 b = true then some (hd 3 b.length ++ b, []) else none := show itemF _ _ = _ by rw [itemF_cons, if_neg (by rw [hg]; exact Bool.noConfusion), if_neg (show ¬ (4 : Int) = 1 by decide), if_neg (show ¬ (4 : Int) = 2 by decide), if_neg (show ¬ (4 : Int) = 3 by decide), if_pos rfl]
  by_cases h : utf8 b = true
  · rw [if_pos h] at hi ⊢
    refine enc_of (by simp) hi ?_
    have := hsize_le b.length
    rw [List.length_append, hd_length]
    omega
  · rw [if_neg h] at hi ⊢
    unfold enc
    rw [if_neg (by simp), hi]
theorem hd_unlike {mj mj' n n' : Nat} (h : mj ≠ mj') (x y : List Int) : hd mj n ++ x ≠ hd mj' n' ++ y := fun e => by
  rw [hd, hd, List.cons_append, List.cons_append] at e
  have h1 := (List.cons.inj e).1
  have h2 := hlow_le n
  have h3 := hlow_le n'
  omega
/-- Bytes beyond the longest are none. -/
theorem dec_long {b : List Int} (h : 32768 < b.length) : dec b = none := by
  cases hd : dec b with
  | none => rfl
  | some k =>
    have := (enc_some (dec_iff.1 hd)).2.2
    omega
end Go.Proofs.YtaabcllghniaoaaDoor
