/- Bytes spoiled by the laws' own helper. -/
import Derived.Test.YthcmcaomnndpcaaBF
namespace Go.Proofs.Ythcmcaomnndpcaa
open Go Go.RowKit
theorem txt_same {w : World} {base n c : Nat} {a : Option Addr} {xs : List Int} (h : OwnBytes w base (.slice a n c) xs) (hb : Bys xs) : n = xs.length ∧ Txt w a c xs := by
  obtain ⟨a', c', e, hV⟩ := h.form hb
  have hno := own_none h
  simp only [Value.slice.injEq] at e
  obtain ⟨rfl, rfl, rfl⟩ := e
  exact ⟨rfl, hV, hno⟩
theorem own_base {w : World} {base g : Nat} {v : Value} {xs : List Int} (h : OwnBytes w base v xs) (hg : g ∈ blks v) : base ≤ g := by
  obtain ⟨h1, ⟨rfl, _⟩ | ⟨g', cap, cur, rfl, h3, _⟩⟩ := h
  · cases hg
  · obtain rfl : g = g' := by simpa [blks] using hg
    exact h3
/-- append of a text's bytes onto a row that the call has made; guarded or not. -/
theorem wpList_app {ops : Array Oper} {rest : List Oper} {o : Oper} {a : Act} {w : World} {Q : Exit → Act → World → Prop} (hw : Region.wanted o (yielded ops a.tmps) = true) (s x : Operand)
    (ho : o.op = .call { callee := .builtin .append, args := #[s, x], argTypes := #[22, 22] }) (base : Nat) {v : Value} {xs m : List Int} (hs : a.eval s = v) (hown : OwnBytes w base v xs) (bx : Bys xs)
    {sa : Option Addr} {len cap : Nat} (hx : a.eval x = .slice sa len cap) (hlen : len = m.length) (hm : Txt w sa cap m) (hl : xs.length + m.length ≤ 1099511627776) (hbase : base ≤ w.heap.size)
    (h : ∀ a' c' w', OwnBytes w' base (.slice a' (xs.length + m.length) c') (xs ++ m) → Txt w' a' c' (xs ++ m) → Below base w w' → wpList Try.prog ops Q rest (a.put o.dst (.slice a' (xs.length + m.length) c')) w') :
    wpList Try.prog ops Q (o :: rest) a w := by
  subst hlen
  unfold wpList
  rw [if_pos hw]
  refine .inl (OpV.wp ?_)
  refine (app_is s x ho hs hown ⟨sa, cap, hx, hm⟩ hl hbase).mono fun v' w' ⟨h1, ⟨r, h2, h3⟩, _⟩ => ?_
  have hb : Bys (xs ++ m) := fun y hy => (List.mem_append.1 hy).elim (bx y) (hm.1.2.2.2.1 y)
  obtain ⟨a', c', rfl, hV⟩ := h1.form hb
  have ht : Txt w' a' c' (xs ++ m) := ⟨hV, own_none h1⟩
  rw [List.length_append] at h1 ⊢
  exact h a' c' w' h1 ht ((Below.refl base w).grown h2 hbase fun g e => own_base hown (h3 g e))
theorem OwnBytes.parts {w : World} {base n : Nat} {a : Option Addr} {c : Nat} {xs : List Int} (h : OwnBytes w base (.slice a n c) xs) (hp : 0 < n) : ∃ g cur, a = some ⟨g, 0, none⟩ ∧ n = xs.length ∧ base ≤ g ∧ Own w g cur 5 ∧ n ≤ c ∧ c ≤ maxLen ∧ cur.size = c ∧ cur.toList.take n = u8s xs := by
  obtain ⟨h1, ⟨h2, h3⟩ | ⟨g, cap, cur, h2, h3, h4, h5, h6, h7, h8⟩⟩ := h
  · simp only [Value.slice.injEq] at h2
    omega
  · simp only [Value.slice.injEq] at h2
    obtain ⟨rfl, rfl, rfl⟩ := h2
    exact ⟨g, cur, rfl, rfl, h3, h4, h5, h6, by rw [h7, Nat.mul_one], by rw [← h8, Nat.mul_one]⟩
theorem own_set {w : World} {base g n c i : Nat} {cur : Array Value} {xs : List Int} {y : Int} (hb : base ≤ g) (ho : Own w g cur 5) (hn : n = xs.length) (hc : n ≤ c) (hm : c ≤ maxLen) (hs : cur.size = c) (ht : cur.toList.take n = u8s xs) : OwnBytes (w.setCell ⟨g, i, none⟩ (.int .u8 y)) base (.slice (some ⟨g, 0, none⟩) n c) (xs.set i y) := by
  subst hn
  refine ⟨by simp [u8s], .inr ⟨g, c, cur.setIfInBounds i (.int .u8 y), by rw [List.length_set], hb, ho.setCell i _, by rw [List.length_set]; exact hc, hm, by simp [hs], ?_⟩⟩
  rw [Nat.mul_one, List.length_set, Array.toList_setIfInBounds, List.take_set, ht, u8s, u8s, List.map_set]
set_option maxRecDepth 100000 in
set_option maxHeartbeats 1000000 in
theorem spoil_own {w : World} {base n : Nat} {a : Option Addr} {c : Nat} {xs : List Int} (h : OwnBytes w base (.slice a n c) xs) (hl : n ≤ 1000000) : Calls Try.prog 12 #[.slice a n c] w fun e w' => e = .returned (.tuple #[]) ∧ Below base w w' := by
  have hlen : (n : Int) ≤ 1000000 := by omega
  go_enter Try.func12, Try.ntmps12
  go_wp2_with fail
  go_loopw [2] (fun i wr => ∃ (k : Nat) (ys : List Int), k ≤ n ∧ i = .int .i64 (k : Int) ∧ OwnBytes wr base (.slice a n c) ys ∧ Below base w wr) (fun i _ => n - (intOf i).toNat)
  case atStart => exact ⟨0, xs, Nat.zero_le _, rfl, h, Below.refl _ _⟩
  case round =>
    obtain ⟨k, ys, hk, rfl, hO, hb⟩ := hrel
    by_cases hlt : k < n
    · have hlt' : (k : Int) < (n : Int) := by omega
      have hk0 : (0 : Int) ≤ (k : Int) := by omega
      obtain ⟨g, cur, rfl, hn, hg, ho, hc, hm, hs, ht⟩ := hO.parts (by omega)
      have hcell : cur[k]? = some (.int .u8 (ys.getD k 0)) := by
        have h1 := congrArg (fun l => l[k]?) ht
        simp only [List.getElem?_take, hlt, if_pos, Array.getElem?_toList] at h1
        rw [h1]
        have : k < ys.length := by omega
        simp [u8s, this, List.getD]
      have c1 := ho.cell hcell
      have hfz := ho.frozen
      have hth := ho.there k 1 (by omega)
      generalize ys.getD k 0 = y at *
      clear hcell
      replace ht := show Hid _ from ht
      replace hn := show Hid _ from hn
      replace hs := show Hid _ from hs
      go_wp2_with fail
      go_roundw
      case rel => exact ⟨k + 1, ys.set k ((y + 101) % 256), by omega, by go_num, own_set hg ho hn.out hc hm hs.out ht.out, hb.setCell hg _⟩
      case measure => simp [intOf]; omega
    · have hlt' : ¬ (k : Int) < (n : Int) := by omega
      go_wp2_with fail
      go_end0
      exact ⟨rfl, hb⟩
set_option maxRecDepth 100000 in
theorem spoil_none {w : World} {a : Option Addr} {c : Nat} : Calls Try.prog 12 #[.slice a 0 c] w fun e w' => e = .returned (.tuple #[]) ∧ w' = w := by
  go_enter Try.func12, Try.ntmps12
  go_wp2_with fail
  go_loopw [2] (fun i wr => i = .int .i64 0 ∧ wr = w) (fun _ _ => 0)
  case atStart => exact ⟨rfl, rfl⟩
  case round =>
    obtain ⟨rfl, rfl⟩ := hrel
    go_wp2_with fail
    go_end0
    exact ⟨rfl, rfl⟩
end Go.Proofs.Ythcmcaomnndpcaa
