/- The laws' own helpers: a twin of bytes, bytes held against bytes, bytes spoiled. -/
import Derived.Test.YtaabcllghniaoaaDoorBT
namespace Go.Proofs.YtaabcllghniaoaaDoor
open Go Go.RowKit
set_option maxRecDepth 100000 in
theorem twin_any (a : Option Addr) (cap : Nat) (m : List Int) (w : World) (hm : BytesV w a m.length cap m) (hcap : a = none → cap = 0) (hl : m.length ≤ 1000000) :
    Calls Tryd.prog 18 #[.slice a m.length cap] w fun e w' => ∃ a' cap', e = .returned (.slice a' m.length cap') ∧ OwnBytes w' w.heap.size (.slice a' m.length cap') m ∧ BytesV w' a' m.length cap' m ∧ w.grownBy w' none := by
  go_enter Tryd.func18, Tryd.ntmps18
  go_wp2_with (at_builtin; refine wpList_append_bytes (by rfl) (.tmp 4) (.tmp 5) (by rfl) w.heap.size (.slice none 0 0) [] (by rfl) (ownBytes_nil _ _) (fun x hx => by simp at hx) a m.length cap m (by rfl) hm hcap (by simp; omega) (Nat.le_refl _) ?_; intro a1 cap1 w1 hO1 hg1 hV1; simp only [List.length_nil, Nat.zero_add, List.nil_append] at hO1 hV1 ⊢)
  go_ret
  exact ⟨a1, cap1, rfl, hO1, hV1, hg1⟩
/-- A text's twin: a text of its own. -/
theorem twin_is {a : Option Addr} {cap : Nat} {m : List Int} {w : World} (hm : Txt w a cap m) (hl : m.length ≤ 1000000) : Calls Tryd.prog 18 #[.slice a m.length cap] w fun e w' => ∃ a' cap', e = .returned (.slice a' m.length cap') ∧ OwnBytes w' w.heap.size (.slice a' m.length cap') m ∧ Txt w' a' cap' m ∧ Below w.heap.size w w' := by
  refine (twin_any a cap m w hm.1 hm.2 hl).mono ?_
  rintro e w' ⟨a', c', rfl, hO, hV, hg⟩
  exact ⟨a', c', rfl, hO, ⟨hV, own_none hO⟩, (Below.refl _ _).grown hg (Nat.le_refl _) (fun k e => by cases e)⟩
theorem getD_same {l l' : List Int} (hl : l.length = l'.length) (h : ∀ j, j < l.length → l.getD j 0 = l'.getD j 0) : l = l' := by
  refine List.ext_getElem hl fun j h1 h2 => ?_
  have := h j h1
  simpa [List.getD, h1, h2] using this
set_option maxRecDepth 100000 in
set_option maxHeartbeats 400000 in
theorem bytes_cmp {a a' : Option Addr} {len len' cap cap' : Nat} {m m' : List Int} {w : World} (h1 : BytesV w a len cap m) (h2 : BytesV w a' len' cap' m') :
    Calls Tryd.prog 17 #[.slice a len cap, .slice a' len' cap'] w fun e w' => e = .returned (.bool (decide (m = m'))) ∧ Below w.heap.size w w' := by
  have hlM : len ≤ maxLen := Nat.le_trans h1.2.1 h1.2.2.1
  have hlM' : len' ≤ maxLen := Nat.le_trans h2.2.1 h2.2.2.1
  have hlm : (len : Int) ≤ 9223372036854775807 := by unfold maxLen at hlM; omega
  have hlm' : (len' : Int) ≤ 9223372036854775807 := by unfold maxLen at hlM'; omega
  have e1 := h1.1
  have e2 := h2.1
  by_cases hll : len ≠ len'
  · have hne : m ≠ m' := fun e => hll (by rw [e1, e2, e])
    have hq : ((len : Int) == (len' : Int)) = false := by rw [beq_eq_false_iff_ne]; omega
    have hq' : ((len : Int) != (len' : Int)) = true := by rw [bne, hq]; rfl
    clear hll
    rw [decide_eq_false hne]
    go_enter Tryd.func17, Tryd.ntmps17
    go_wp2_with fail
    go_ret
    exact ⟨rfl, Below.refl _ _⟩
  obtain rfl : len = len' := Classical.not_not.1 hll
  clear hll
  have hq : ((len : Int) == (len : Int)) = true := beq_self_eq_true _
  have hq' : ((len : Int) != (len : Int)) = false := by rw [bne, hq]; rfl
  go_enter Tryd.func17, Tryd.ntmps17
  go_wp2_with fail
  go_loopw [5] (fun i wr => ∃ k : Nat, k ≤ len ∧ i = .int .i64 (k : Int) ∧ Hid (∀ j, j < k → m.getD j 0 = m'.getD j 0) ∧ Below w.heap.size w wr) (fun i _ => len - (intOf i).toNat)
  case atStart => exact ⟨0, Nat.zero_le _, rfl, fun j h => absurd h (Nat.not_lt_zero _), Below.refl _ _⟩
  case round =>
    obtain ⟨k, hk, rfl, hs, hb⟩ := hrel
    by_cases hkl : k < len
    · have hki : (k : Int) < (len : Int) := by omega
      have hk0 : (0 : Int) ≤ (k : Int) := by omega
      obtain ⟨b, off, rfl, c1⟩ := (h1.below hb).at k hkl
      obtain ⟨b', off', rfl, c2⟩ := (h2.below hb).at k hkl
      obtain ⟨x, Hx⟩ : ∃ x, Hid (m.getD k 0 = x) := ⟨_, rfl⟩
      obtain ⟨y, Hy⟩ : ∃ y, Hid (m'.getD k 0 = y) := ⟨_, rfl⟩
      rw [Hx.out] at c1
      rw [Hy.out] at c2
      by_cases hxy : x = y
      · subst hxy
        have hx : (x == x) = true := beq_self_eq_true x
        have hx' : (x != x) = false := by rw [bne, hx]; rfl
        go_wp2_with fail
        go_region
        go_wp2_with fail
        go_roundw
        case rel =>
          refine ⟨k + 1, by omega, by go_num, fun j hj => ?_, hb.trans ((Below.refl _ _).drew)⟩
          rcases Nat.lt_or_ge j k with h | h
          · exact hs.out j h
          · obtain rfl : j = k := by omega
            rw [Hx.out, Hy.out]
        case measure => simp [intOf]; omega
      · have hx : (x == y) = false := beq_eq_false_iff_ne.2 hxy
        have hx' : (x != y) = true := by rw [bne, hx]; rfl
        have hne : Hid (m ≠ m') := fun e => hxy (by rw [← Hx.out, ← Hy.out, e])
        clear hxy
        go_wp2_with fail
        go_region
        go_wp2_with fail
        go_ret
        exact ⟨by rw [decide_eq_false hne.out]; rfl, hb.trans ((Below.refl _ _).drew)⟩
    · have hki : ¬ (k : Int) < (len : Int) := by omega
      have hm : Hid (m = m') := getD_same (by rw [← e1, ← e2]) fun j hj => hs.out j (by omega)
      go_wp2_with fail
      go_ret
      exact ⟨by rw [decide_eq_true hm.out]; rfl, hb⟩
theorem bytes_tx {a a' : Option Addr} {cap cap' : Nat} {m m' : List Int} {w : World} (h1 : Txt w a cap m) (h2 : Txt w a' cap' m') : Calls Tryd.prog 17 #[.slice a m.length cap, .slice a' m'.length cap'] w fun e w' => e = .returned (.bool (decide (m = m'))) ∧ Below w.heap.size w w' := bytes_cmp h1.1 h2.1
end Go.Proofs.YtaabcllghniaoaaDoor
