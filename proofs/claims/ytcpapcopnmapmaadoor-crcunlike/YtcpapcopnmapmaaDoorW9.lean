/- The laws' own helpers: a twin of bytes, bytes held against bytes, bytes spoiled. -/
import Derived.Test.YtcpapcopnmapmaaDoorK3
namespace Go.Proofs.YtcpapcopnmapmaaDoor
open Go.RowKit

set_option maxRecDepth 100000 in
theorem twin_any (a : Option Addr) (cap : Nat) (m : List Int) (w : World) (hm : BytesV w a m.length cap m) (hcap : a = none → cap = 0) (hl : m.length ≤ 1000000) :
    Calls Tryd.prog 8 #[.slice a m.length cap] w fun e w' => ∃ a' cap', e = .returned (.slice a' m.length cap') ∧ OwnBytes w' w.heap.size (.slice a' m.length cap') m ∧ BytesV w' a' m.length cap' m ∧ w.grownBy w' none := by
  go_enter Tryd.func8, Tryd.ntmps8
  go_wp2_with (at_builtin; refine wpList_append_bytes (by rfl) (.tmp 4) (.tmp 5) (by rfl) w.heap.size (.slice none 0 0) [] (by rfl) (ownBytes_nil _ _) (fun x hx => by simp at hx) a m.length cap m (by rfl) hm hcap (by simp; omega) (Nat.le_refl _) ?_; intro a1 cap1 w1 hO1 hg1 hV1; simp only [List.length_nil, Nat.zero_add, List.nil_append] at hO1 hV1 ⊢)
  go_ret
  exact ⟨a1, cap1, rfl, hO1, hV1, hg1⟩

theorem BytesV.at {w : World} {a : Option Addr} {len cap : Nat} {m : List Int} (h : BytesV w a len cap m) (k : Nat) (hk : k < len) : ∃ b off, a = some ⟨b, off, none⟩ ∧ w.cell? ⟨b, off + k, none⟩ = some (.int .u8 (m.getD k 0)) := by
  obtain ⟨b, off, e, hr⟩ := h.2.2.2.2 (by omega)
  have : k < m.length := by rw [← h.1]; exact hk
  exact ⟨b, off, e, hr k _ (by simp [u8s, this, List.getD])⟩

set_option maxRecDepth 100000 in
theorem bytes_any (a a' : Option Addr) (len cap cap' : Nat) (m : List Int) (w : World) (h1 : BytesV w a len cap m) (h2 : BytesV w a' len cap' m) :
    Calls Tryd.prog 11 #[.slice a len cap, .slice a' len cap'] w fun e w' => e = .returned (.bool true) ∧ Below w.heap.size w w' := by
  have hlM : len ≤ maxLen := Nat.le_trans h1.2.1 h1.2.2.1
  have hlm : (len : Int) ≤ 9223372036854775807 := by unfold maxLen at hlM; omega
  go_enter Tryd.func11, Tryd.ntmps11
  go_wp2_with fail
  go_loopw [5] (fun i wr => ∃ k : Nat, k ≤ len ∧ i = .int .i64 (k : Int) ∧ Below w.heap.size w wr) (fun i _ => len - (intOf i).toNat)
  case atStart => exact ⟨0, Nat.zero_le _, rfl, Below.refl _ _⟩
  case round =>
    obtain ⟨k, hk, rfl, hb⟩ := hrel
    by_cases hkl : k < len
    · have hki : (k : Int) < (len : Int) := by omega
      have hk0 : (0 : Int) ≤ (k : Int) := by omega
      obtain ⟨b, off, rfl, c1⟩ := (h1.below hb).at k hkl
      obtain ⟨b', off', rfl, c2⟩ := (h2.below hb).at k hkl
      generalize m.getD k 0 = x at *
      have hx : (x == x) = true := beq_self_eq_true x
      have hx' : (x != x) = false := by rw [bne, hx]; rfl
      go_wp2_with fail
      go_region
      go_wp2_with fail
      go_roundw
      case rel => exact ⟨k + 1, by omega, by go_num, hb.trans ((Below.refl _ _).drew)⟩
      case measure => simp [intOf]; omega
    · have hki : ¬ (k : Int) < (len : Int) := by omega
      go_wp2_with fail
      go_ret
      exact ⟨rfl, hb⟩

end Go.Proofs.YtcpapcopnmapmaaDoor
