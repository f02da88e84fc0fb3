/- Bytes held against bytes, whatever they are; a row of bytes that the call itself writes. -/
import Derived.Test.YtcpapcopnmapmaaDoorW9
namespace Go.Proofs.YtcpapcopnmapmaaDoor
open Go.RowKit

theorem take_succ_eq (m n : List Int) (k : Nat) (hm : k < m.length) (hn : k < n.length) : m.take (k + 1) = n.take (k + 1) ↔ m.take k = n.take k ∧ m.getD k 0 = n.getD k 0 := by
  rw [List.take_succ_eq_append_getElem hm, List.take_succ_eq_append_getElem hn, List.getD, List.getD, List.getElem?_eq_getElem hm, List.getElem?_eq_getElem hn, Option.getD_some, Option.getD_some]
  constructor
  · intro h
    have := List.append_inj' h rfl
    exact ⟨this.1, by simpa using this.2⟩
  · rintro ⟨h1, h2⟩; rw [h1, h2]
set_option maxRecDepth 100000 in
theorem bytes_eq (a a' : Option Addr) (len cap cap' : Nat) (m n : List Int) (w : World) (h1 : BytesV w a len cap m) (h2 : BytesV w a' len cap' n) :
    Calls Tryd.prog 11 #[.slice a len cap, .slice a' len cap'] w fun e w' => e = .returned (.bool (decide (m = n))) ∧ Below w.heap.size w w' := by
  have hlM : len ≤ maxLen := Nat.le_trans h1.2.1 h1.2.2.1
  have hlm : (len : Int) ≤ 9223372036854775807 := by unfold maxLen at hlM; omega
  have hm := h1.1
  have hn := h2.1
  go_enter Tryd.func11, Tryd.ntmps11
  go_wp2_with fail
  go_loopw [5] (fun i wr => ∃ k : Nat, k ≤ len ∧ i = .int .i64 (k : Int) ∧ Hid (m.take k = n.take k) ∧ Below w.heap.size w wr) (fun i _ => len - (intOf i).toNat)
  case atStart => exact ⟨0, Nat.zero_le _, rfl, rfl, Below.refl _ _⟩
  case round =>
    obtain ⟨k, hk, rfl, Ht, hb⟩ := hrel
    by_cases hkl : k < len
    · have hki : (k : Int) < (len : Int) := by omega
      have hk0 : (0 : Int) ≤ (k : Int) := by omega
      obtain ⟨b, off, rfl, c1⟩ := (h1.below hb).at k hkl
      obtain ⟨b', off', rfl, c2⟩ := (h2.below hb).at k hkl
      have Hs := show Hid _ from take_succ_eq m n k (by omega) (by omega)
      by_cases hxy : m.getD k 0 = n.getD k 0
      · have Hxy := show Hid _ from hxy
        rw [← hxy] at c2
        generalize hz : m.getD k 0 = x at c1 c2
        clear hxy hz
        have hx : (x == x) = true := beq_self_eq_true x
        have hx' : (x != x) = false := by rw [bne, hx]; rfl
        go_wp2_with fail
        go_region
        go_wp2_with fail
        go_roundw
        case rel => exact ⟨k + 1, by omega, by go_num, Hs.out.2 ⟨Ht.out, Hxy.out⟩, hb.trans ((Below.refl _ _).drew)⟩
        case measure => simp [intOf]; omega
      · have Hne : Hid (¬ m = n) := fun e => hxy (by rw [e])
        generalize m.getD k 0 = x at *
        generalize n.getD k 0 = y at *
        have hx : (x == y) = false := by simpa using hxy
        have hx' : (x != y) = true := by rw [bne, hx]; rfl
        clear hxy Hs
        go_wp2_with fail
        go_region
        go_wp2_with fail
        go_ret
        rw [decide_eq_false Hne.out]
        exact ⟨rfl, hb.trans ((Below.refl _ _).drew)⟩
    · have hki : ¬ (k : Int) < (len : Int) := by omega
      go_wp2_with fail
      go_ret
      have e : m = n := by
        have := Ht.out
        rwa [List.take_of_length_le (by omega), List.take_of_length_le (by omega)] at this
      rw [decide_eq_true e]
      exact ⟨rfl, hb⟩

/-- Block g is the call's own, and its first cells are these bytes. -/
def RowAt (w : World) (g cap : Nat) (l : List Int) : Prop := l.length ≤ cap ∧ cap ≤ maxLen ∧ ∃ cur, Own w g cur 5 ∧ cur.size = cap ∧ cur.toList.take l.length = u8s l
theorem OwnBytes.row {w : World} {base : Nat} {v : Value} {l : List Int} (h : OwnBytes w base v l) (hp : 0 < l.length) : ∃ g cap, v = .slice (some ⟨g, 0, none⟩) l.length cap ∧ base ≤ g ∧ RowAt w g cap l := by
  obtain ⟨h1, ⟨h2, h3⟩ | ⟨g, cap, cur, h2, h3, h4, h5, h6, h7, h8⟩⟩ := h
  · omega
  · exact ⟨g, cap, h2, h3, h5, h6, cur, h4, by omega, by rw [Nat.mul_one] at h8; exact h8⟩
theorem RowAt.cellAt {w : World} {g cap : Nat} {l : List Int} (h : RowAt w g cap l) (k : Nat) (hk : k < l.length) : w.cell? ⟨g, k, none⟩ = some (.int .u8 (l.getD k 0)) := by
  obtain ⟨_, _, cur, ho, _, ht⟩ := h
  refine ho.cell ?_
  have : (cur.toList.take l.length)[k]? = some (.int .u8 (l.getD k 0)) := by
    rw [ht, u8s, List.getElem?_map, List.getElem?_eq_getElem hk, List.getD, List.getElem?_eq_getElem hk]; rfl
  rw [List.getElem?_take, if_pos hk] at this
  simpa using this
theorem RowAt.frozen {w : World} {g cap : Nat} {l : List Int} (h : RowAt w g cap l) (k : Nat) : w.frozen? ⟨g, k, none⟩ = false := by
  obtain ⟨_, _, cur, ho, _, _⟩ := h
  exact ho.frozen k
theorem RowAt.lt {w : World} {g cap : Nat} {l : List Int} (h : RowAt w g cap l) : g < w.heap.size := by
  obtain ⟨_, _, cur, ho, _, _⟩ := h
  exact ho.lt
theorem RowAt.bytes {w : World} {g cap : Nat} {l : List Int} (h : RowAt w g cap l) (hl : Bys l) : BytesV w (some ⟨g, 0, none⟩) l.length cap l :=
  ⟨rfl, h.1, h.2.1, hl, fun _ => ⟨g, 0, rfl, fun j v hv => by
    have hj : j < l.length := by
      have := (List.getElem?_eq_some_iff.1 hv).1
      simpa [u8s] using this
    rw [Nat.zero_add, h.cellAt j hj, ← hv, u8s, List.getElem?_map, List.getElem?_eq_getElem hj, List.getD, List.getElem?_eq_getElem hj]; rfl⟩⟩
theorem RowAt.set {w : World} {g cap : Nat} {l : List Int} (h : RowAt w g cap l) (k : Nat) (x : Int) : RowAt (w.setCell ⟨g, k, none⟩ (.int .u8 x)) g cap (l.set k x) := by
  obtain ⟨h1, h2, cur, ho, hs, ht⟩ := h
  refine ⟨by rw [List.length_set]; exact h1, h2, _, ho.setCell k _, by simpa using hs, ?_⟩
  rw [List.length_set, Array.toList_setIfInBounds, List.take_set, ht, u8s, u8s, List.map_set]
theorem RowAt.below {w w' : World} {g cap : Nat} {l : List Int} (h : RowAt w g cap l) (hB : Below w.heap.size w w') : RowAt w' g cap l := by
  obtain ⟨h1, h2, cur, ho, hs, ht⟩ := h
  exact ⟨h1, h2, cur, ho.below hB ho.lt, hs, ht⟩
theorem RowAt.drew {w : World} {g cap : Nat} {l : List Int} (h : RowAt w g cap l) : RowAt w.drew g cap l := h
end Go.Proofs.YtcpapcopnmapmaaDoor
