/- CBOR's tokens, one behind the other. -/
import Derived.Test.YtaabcllghniaoaaDoorCE
import Derived.Test.YtaabcllghniaoaaDoorBT
namespace Go.Proofs.YtaabcllghniaoaaDoor
/-- A token's bytes. -/
def tb (t : Tk) : List Int := if t.k = 3 ∨ t.k = 4 then hd (t.k - 1).toNat t.b.length ++ t.b else hd (t.k - 1).toNat t.n.toNat
/-- Tokens' bytes, one behind the other. -/
def tbs (l : List Tk) : List Int := (l.map tb).flatten
def tgood (t : Tk) : Prop := t.good = true ∧ 1 ≤ t.k ∧ t.k ≤ 6
/-- The token at some bytes' beginning, and what stands behind it. -/
def ftok (b : List Int) : Option (Tk × List Int) := match hget b with
  | none => none
  | some (mj, n, k) =>
    if mj = 2 ∨ mj = 3 then (if (b.drop k).length < n then none else some (⟨(mj : Int) + 1, 0, (b.drop k).take n⟩, (b.drop k).drop n))
    else if mj ≤ 5 then some (⟨(mj : Int) + 1, n, []⟩, b.drop k) else none
theorem tbs_cons (t : Tk) (l : List Tk) : tbs (t :: l) = tb t ++ tbs l := by simp [tbs]
theorem tbs_app (l k : List Tk) : tbs (l ++ k) = tbs l ++ tbs k := by simp [tbs]
theorem tb_pos (t : Tk) : 0 < (tb t).length := by
  unfold tb
  split
  · rw [List.length_append]; have := hd_pos (t.k - 1).toNat t.b.length; omega
  · exact hd_pos _ _
theorem ftok_tb {t : Tk} (h : tgood t) (y : List Int) : ftok (tb t ++ y) = some (t, y) := by
  obtain ⟨hg, h1, h6⟩ := h
  have hb := good_num hg
  have hn : t.n.toNat < 9223372036854775808 := by omega
  have en : ((t.n.toNat : Nat) : Int) = t.n := Int.toNat_of_nonneg hb.1
  have ek : (((t.k - 1).toNat : Nat) : Int) + 1 = t.k := by omega
  unfold tb ftok
  by_cases hk : t.k = 3 ∨ t.k = 4
  · rw [if_pos hk, List.append_assoc, hget_hd hb.2.2]
    have e : ∀ z : List Int, (hd (t.k - 1).toNat t.b.length ++ z).drop (1 + hsize t.b.length) = z := fun z => List.drop_left' (hd_length _ _)
    simp only [e]
    rw [if_pos (by omega), if_neg (by rw [List.length_append]; omega), List.take_left, List.drop_left, ek]
    have h0 := good_bytes hg hk
    obtain ⟨k, n, b⟩ := t
    simp only at h0
    subst h0
    rfl
  · rw [if_neg hk, hget_hd hn]
    have e : ∀ z : List Int, (hd (t.k - 1).toNat t.n.toNat ++ z).drop (1 + hsize t.n.toNat) = z := fun z => List.drop_left' (hd_length _ _)
    simp only [e]
    rw [if_neg (by omega), if_pos (by omega), ek, en]
    have h0 := good_plain hg hk
    obtain ⟨k, n, b⟩ := t
    simp only at h0
    subst h0
    rfl
theorem ftok_some {b r : List Int} {t : Tk} (hb : Bys b) (h : ftok b = some (t, r)) : b = tb t ++ r ∧ tgood t := by
  unfold ftok at h
  cases hg : hget b with
  | none => rw [hg] at h; cases h
  | some p =>
    obtain ⟨mj, n, k⟩ := p
    rw [hg] at h
    simp only at h
    obtain ⟨h1, h2, h3, h4, h5⟩ := hget_some hg hb
    have eb : b = hd mj n ++ b.drop k := by rw [h3, List.take_append_drop]
    by_cases hm : mj = 2 ∨ mj = 3
    · rw [if_pos hm] at h
      split at h
      · cases h
      · rename_i hlen
        simp only [Option.some.injEq, Prod.mk.injEq] at h
        obtain ⟨rfl, rfl⟩ := h
        have hlt : ((b.drop k).take n).length = n := by rw [List.length_take]; omega
        refine ⟨?_, decide_eq_true (show ¬ (((mj : Int) + 1 = 3 ∨ (mj : Int) + 1 = 4) ∧ (0 : Int) ≠ 0) ∧ ¬ (¬ ((mj : Int) + 1 = 3 ∨ (mj : Int) + 1 = 4) ∧ 0 < ((b.drop k).take n).length) ∧ 0 ≤ (0 : Int) ∧ (0 : Int) < 9223372036854775808 ∧ ((b.drop k).take n).length < 9223372036854775808 from ⟨by omega, by omega, by omega, by omega, by omega⟩), by show 1 ≤ (mj : Int) + 1; omega, by show (mj : Int) + 1 ≤ 6; omega⟩
        unfold tb
        rw [if_pos (show (mj : Int) + 1 = 3 ∨ (mj : Int) + 1 = 4 by omega)]
        simp only
        rw [hlt, show ((mj : Int) + 1 - 1).toNat = mj by omega, List.append_assoc, List.take_append_drop]
        exact eb
    · rw [if_neg hm] at h
      split at h
      · rename_i h55
        simp only [Option.some.injEq, Prod.mk.injEq] at h
        obtain ⟨rfl, rfl⟩ := h
        refine ⟨?_, decide_eq_true (show ¬ (((mj : Int) + 1 = 3 ∨ (mj : Int) + 1 = 4) ∧ (n : Int) ≠ 0) ∧ ¬ (¬ ((mj : Int) + 1 = 3 ∨ (mj : Int) + 1 = 4) ∧ 0 < ([] : List Int).length) ∧ 0 ≤ (n : Int) ∧ (n : Int) < 9223372036854775808 ∧ ([] : List Int).length < 9223372036854775808 from ⟨by omega, by simp, by omega, by omega, by decide⟩), by show 1 ≤ (mj : Int) + 1; omega, by show (mj : Int) + 1 ≤ 6; omega⟩
        unfold tb
        rw [if_neg (show ¬ ((mj : Int) + 1 = 3 ∨ (mj : Int) + 1 = 4) by omega)]
        simp only
        rw [show ((mj : Int) + 1 - 1).toNat = mj by omega, Int.toNat_natCast]
        exact eb
      · cases h
theorem runs_tbs {f : List Tk → Option (List Int × List Tk)} (H : ∀ l x r, f l = some (x, r) → ∃ p, l = p ++ r ∧ x = tbs p ∧ ∀ t ∈ p, tgood t) : ∀ {k : Nat} {l r : List Tk} {xs : List (List Int)}, runs f k l = some (xs, r) → ∃ p, l = p ++ r ∧ xs.flatten = tbs p ∧ ∀ t ∈ p, tgood t
  | 0, l, r, xs, h => by obtain ⟨rfl, rfl⟩ := runs_zero h; exact ⟨[], rfl, rfl, fun t ht => by cases ht⟩
  | k + 1, l, r, ys, h => by
    obtain ⟨x, q, xs, h1, h2, rfl⟩ := runs_succ h
    obtain ⟨p, rfl, rfl, hp⟩ := H _ _ _ h1
    obtain ⟨ps, rfl, e, hps⟩ := runs_tbs H h2
    refine ⟨p ++ ps, by rw [List.append_assoc], by rw [List.flatten_cons, e, tbs_app], fun t ht => ?_⟩
    rcases List.mem_append.1 ht with h | h
    · exact hp t h
    · exact hps t h
theorem itemF_tbs {f : Option (List Tk → Option (List Int × List Tk))} (H : ∀ a, f = some a → ∀ l x r, a l = some (x, r) → ∃ p, l = p ++ r ∧ x = tbs p ∧ ∀ t ∈ p, tgood t) {l r : List Tk} {x : List Int} (h : itemF f l = some (x, r)) : ∃ p, l = p ++ r ∧ x = tbs p ∧ ∀ t ∈ p, tgood t := by
  obtain ⟨t, q, rfl, hg, h⟩ := itemF_some h
  have one : tgood t → x = tb t → r = q → ∃ p, t :: q = p ++ r ∧ x = tbs p ∧ ∀ t ∈ p, tgood t := fun h1 h2 h3 => ⟨[t], by rw [h3]; rfl, by rw [h2, tbs_cons]; simp [tbs], fun s hs => by obtain rfl := List.mem_singleton.1 hs; exact h1⟩
  rcases h with ⟨h1, rfl, rfl⟩ | ⟨h1, rfl, rfl⟩ | ⟨h1, rfl, rfl⟩ | ⟨h1, hu, rfl, rfl⟩ | ⟨a, xs, rfl, h1, hn', hr, hu, rfl⟩
  · exact one ⟨hg, by omega, by omega⟩ (by unfold tb; rw [if_neg (by omega), h1]; rfl) rfl
  · exact one ⟨hg, by omega, by omega⟩ (by unfold tb; rw [if_neg (by omega), h1]; rfl) rfl
  · exact one ⟨hg, by omega, by omega⟩ (by unfold tb; rw [if_pos (by omega), h1]; rfl) rfl
  · exact one ⟨hg, by omega, by omega⟩ (by unfold tb; rw [if_pos (by omega), h1]; rfl) rfl
  · obtain ⟨p, rfl, e, hp⟩ := runs_tbs (H a rfl) hr
    refine ⟨t :: p, rfl, ?_, fun s hs => ?_⟩
    · rw [tbs_cons, e]
      congr 1
      unfold tb
      rcases h1 with h | h
      · rw [if_pos h, if_neg (show ¬ (t.k = 3 ∨ t.k = 4) by omega), h]; rfl
      · rw [if_neg (show ¬ t.k = 5 by omega), if_neg (show ¬ (t.k = 3 ∨ t.k = 4) by omega), h]; rfl
    · rcases List.mem_cons.1 hs with rfl | hs
      · exact ⟨hg, by omega, by omega⟩
      · exact hp s hs
theorem item_tbs : ∀ {d : Nat} {l r : List Tk} {x : List Int}, item d l = some (x, r) → ∃ p, l = p ++ r ∧ x = tbs p ∧ ∀ t ∈ p, tgood t
  | 0, _, _, _, h => itemF_tbs (f := none) (fun _ e => by cases e) h
  | d + 1, _, _, _, h => itemF_tbs (f := some (item d)) (fun a e => by cases e; exact fun l x r h => item_tbs h) h
theorem enc_tbs {l : List Tk} {x : List Int} (h : enc l = some x) : x = tbs l ∧ ∀ t ∈ l, tgood t := by
  obtain ⟨p, e, hx, hp⟩ := item_tbs (enc_some h).2.1
  rw [List.append_nil] at e
  subst e
  exact ⟨hx, hp⟩
/-- What a reader of tokens knows at a place: these have been read; whatever the bytes are told as begins so. -/
def Rdt (m : List Int) (q : Nat) (l : List Tk) : Prop := q ≤ m.length ∧ m.take q = tbs l ∧ ∀ l', dec m = some l' → ∃ s, l' = l ++ s ∧ m.drop q = tbs s ∧ ∀ t ∈ s, tgood t
theorem rdt_start (m : List Int) : Rdt m 0 [] := ⟨Nat.zero_le _, rfl, fun l' h => by
  obtain ⟨hx, hg⟩ := enc_tbs (dec_iff.1 h)
  exact ⟨l', rfl, hx, hg⟩⟩
/-- Where there is no token the bytes are told as nothing. -/
theorem rdt_none {m : List Int} {q : Nat} {l : List Tk} (h : Rdt m q l) (hq : q < m.length) (hn : ftok (m.drop q) = none) : dec m = none := by
  cases hd : dec m with
  | none => rfl
  | some l' =>
    obtain ⟨s, -, hs, hg⟩ := h.2.2 l' hd
    cases s with
    | nil =>
      have := congrArg List.length hs
      rw [List.length_drop] at this
      simp [tbs] at this
      omega
    | cons t s =>
      rw [hs, tbs_cons, ftok_tb (hg t (.head _))] at hn
      cases hn
theorem rdt_next {m : List Int} {q : Nat} {l : List Tk} {t : Tk} {r : List Int} (hb : Bys m) (h : Rdt m q l) (ht : ftok (m.drop q) = some (t, r)) : q < m.length - r.length ∧ r.length ≤ m.length ∧ Rdt m (m.length - r.length) (l ++ [t]) := by
  obtain ⟨e, hg⟩ := ftok_some (fun x hx => hb x (List.mem_of_mem_drop hx)) ht
  have hlen := congrArg List.length e
  rw [List.length_drop, List.length_append] at hlen
  have hp := tb_pos t
  have hq := h.1
  have hr : m.drop (m.length - r.length) = r := by
    have : m.drop (m.length - r.length) = (m.drop q).drop (tb t).length := by rw [List.drop_drop]; congr 1; omega
    rw [this, e, List.drop_left]
  refine ⟨by omega, by omega, by omega, ?_, fun l' hd => ?_⟩
  · rw [tbs_app, ← h.2.1, tbs_cons]
    have h1 : m = (m.take q ++ tb t) ++ r := by rw [List.append_assoc, ← e, List.take_append_drop]
    have h2 : (m.take q ++ tb t).length = m.length - r.length := by rw [List.length_append, List.length_take]; omega
    have h3 : m.take (m.length - r.length) = ((m.take q ++ tb t) ++ r).take (m.length - r.length) := by rw [← h1]
    rw [h3, List.take_left' h2]
    simp [tbs]
  · obtain ⟨s, rfl, hs, hgs⟩ := h.2.2 l' hd
    cases s with
    | nil =>
      have := congrArg List.length hs
      rw [List.length_drop] at this
      simp [tbs] at this
      omega
    | cons t' s =>
      rw [hs, tbs_cons, ftok_tb (hgs t' (.head _))] at ht
      simp only [Option.some.injEq, Prod.mk.injEq] at ht
      obtain ⟨rfl, rfl⟩ := ht
      exact ⟨s, by simp, hr, fun z hz => hgs z (.tail _ hz)⟩
/-- At the end: what has been read is what the bytes are told as, if it is a right row. -/
theorem rdt_end {m : List Int} {l : List Tk} (h : Rdt m m.length l) : dec m = if (enc l).isSome = true then some l else none := by
  have hm : m = tbs l := by have := h.2.1; rwa [List.take_length] at this
  cases he : enc l with
  | some x =>
    rw [Option.isSome_some, if_pos rfl]
    obtain ⟨hx, -⟩ := enc_tbs he
    exact dec_iff.2 (by rw [he, hx, ← hm])
  | none =>
    rw [Option.isSome_none, if_neg (by decide)]
    cases hd : dec m with
    | none => rfl
    | some l' =>
      obtain ⟨s, rfl, hs, -⟩ := h.2.2 l' hd
      rw [List.drop_length] at hs
      cases s with
      | nil => rw [List.append_nil] at hd; rw [dec_iff.1 hd] at he; cases he
      | cons t s =>
        have := congrArg List.length hs
        rw [tbs_cons, List.length_append] at this
        have := tb_pos t
        simp at *
        omega
end Go.Proofs.YtaabcllghniaoaaDoor
