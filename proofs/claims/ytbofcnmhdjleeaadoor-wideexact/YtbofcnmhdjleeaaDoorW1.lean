/- The walks of the leaves: RotateLeft64, Mul64, word, putWord. -/
import Derived.Test.YtbofcnmhdjleeaaDoorRows
import Derived.Test.YtbofcnmhdjleeaaDoorM1
import Derived.Test.YtbofcnmhdjleeaaDoorK1
import Derived.WalkKit
import Derived.WalkSpells
import Derived.WalkLawsBesides
import Derived.Deep.QuietTactic
import Derived.BigQuiet
import Derived.Laws.BitsAllLaws
import Derived.Deep.MidRow
namespace Go.Proofs.YtbofcnmhdjleeaaDoor
open Go.RowKit

theorem ret_int {k : IntKind} {a b : Int} (h : a = b) : Ending.returned (.int k a) = .returned (.int k b) := by rw [h]

theorem nat_mask6 (x : Nat) : x &&& 63 = x % 64 := by
  have := Nat.and_two_pow_sub_one_eq_mod x 6
  simpa using this
theorem and63 (k : Int) (h1 : -64 < k) (h2 : k < 0) : bits .and .u64 (IntKind.u64.wrap k) 63 = 64 + k := by
  have e : IntKind.u64.wrap k = 18446744073709551616 + k := by
    simp [IntKind.wrap, IntKind.bits, IntKind.signed]; omega
  rw [e]
  rw [show (63 : Int) = ((63 : Nat) : Int) from rfl]
  have := u64_and (18446744073709551616 + k) 63 (by omega) (by omega) (by omega) (by omega)
  rw [show ((63 : Nat) : Int) = (63 : Int) from rfl, this]
  rw [show (63 : Int).toNat = 63 from rfl, nat_mask6]
  omega
theorem sub_s (k : Int) (h1 : -64 < k) (h2 : k < 0) : IntKind.u64.wrap (64 - (64 + k)) = - k := by
  simp [IntKind.wrap, IntKind.bits, IntKind.signed]; omega

set_option maxHeartbeats 400000 in
theorem rot_any (x k : Int) (w : World) (h1 : -64 < k) (h2 : k < 0) :
    Calls Tryd.prog 20 #[.int .u64 x, .int .i64 k] w fun e w' => e = .returned (.int .u64 (rotl x (64 + k).toNat)) ∧ w' = w := by
  have hs := and63 k h1 h2
  have h3 : 0 ≤ 64 + k := by omega
  have hk := sub_s k h1 h2
  have h4 : 0 ≤ - k := by omega
  go_enter Tryd.func20, Tryd.ntmps20
  go_wp2
  go_ret
  refine ⟨ret_int ?_, rfl⟩
  unfold rotl
  rw [show 64 - (64 + k).toNat = (-k).toNat from by omega]

theorem and32 (x : Int) (h0 : 0 ≤ x) (h1 : x < 4294967296) : bits .and .u64 x 4294967295 = x := by
  rw [show (4294967295 : Int) = ((4294967295 : Nat) : Int) from rfl]
  have := u64_and x 4294967295 (by omega) (by omega) (by omega) (by omega)
  rw [show ((4294967295 : Nat) : Int) = (4294967295 : Int) from rfl, this]
  have e := Nat.and_two_pow_sub_one_eq_mod x.toNat 32
  rw [show (4294967295 : Int).toNat = 2 ^ 32 - 1 from rfl, e]
  omega
set_option maxHeartbeats 400000 in
theorem mul_any (x : Int) (w : World) (h0 : 0 ≤ x) (h1 : x ≤ 268435456) :
    Calls Tryd.prog 19 #[.int .u64 x, .int .u64 8] w fun e w' => e = .returned (.tuple #[.int .u64 0, .int .u64 (x * 8)]) ∧ w' = w := by
  have e1 := and32 x h0 (by omega)
  have e2 := and32 8 (by decide) (by decide)
  have e3 := and32 0 (by decide) (by decide)
  have e4 : x / 4294967296 = 0 := by omega
  have e5 : x * 8 / 4294967296 = 0 := by omega
  go_enter Tryd.func19, Tryd.ntmps19
  go_wp2
  go_ret2
  refine ⟨?_, rfl⟩
  rfl

set_option maxHeartbeats 400000 in
theorem word_any (b off len cap : Nat) (f : Nat → Int) (w : World) (hl : 8 ≤ len) (hc : len ≤ cap) (hb : BytesAt w b off 8 f) :
    Calls Tryd.prog 22 #[.slice (some ⟨b, off, none⟩) len cap] w fun e w' => e = .returned (.int .u64 (acc f 8)) ∧ w' = w := by
  have hci : (8 : Int) ≤ (cap : Int) := by omega
  go_enter Tryd.func22, Tryd.ntmps22
  go_wp2
  go_loop [3, 9] (fun v i => ∃ k : Nat, k ≤ 8 ∧ i = .int .i64 k ∧ v = .int .u64 (acc f k)) (fun _ i => 8 - (intOf i).toNat)
  case atStart => exact ⟨0, by omega, rfl, rfl⟩
  case round =>
    obtain ⟨k, hk, rfl, rfl⟩ := hrel
    by_cases hlt : k < 8
    · have hki : (k : Int) < 8 := by omega
      have hk0 : (0 : Int) ≤ (k : Int) := by omega
      obtain ⟨c, h0, h1⟩ := hb k hlt
      have Hacc : Hid (acc f (k + 1) = bits .or .u64 (IntKind.u64.wrap (acc f k * 256)) (f k)) := rfl
      generalize f k = y at *
      generalize acc f k = ac at *
      go_wp2
      go_round
      case rel => exact ⟨k + 1, by omega, by go_num, by rw [Hacc.out]⟩
      case measure => simp [intOf]; omega
    · have Hk : Hid (k = 8) := show k = 8 by omega
      have hki : ¬ (k : Int) < 8 := by omega
      go_wp2
      go_ret
      exact ⟨ret_int (by rw [Hk.out]), rfl⟩

/-- An array whose cells from off on hold the first k bytes of a word. -/
def put8 (A : Array Value) (off : Nat) (x : Int) : Nat → Array Value
  | 0 => A
  | k + 1 => (put8 A off x k).setIfInBounds (off + k) (.int .u8 (byteAt x k))
theorem put8_size (A : Array Value) (off : Nat) (x : Int) : ∀ k, (put8 A off x k).size = A.size
  | 0 => rfl
  | k + 1 => by rw [put8, Array.size_setIfInBounds, put8_size A off x k]
theorem grown_setCell (w : World) (b i : Nat) (v : Value) : w.grownBy (w.setCell ⟨b, i, none⟩ v) (some b) :=
  ⟨rfl, rfl, rfl, by simp [World.setCell], fun k _ hk => Below.heap_setCell _ _ _ _ (fun e => hk (by rw [e]))⟩
theorem grown_trans {a b c : World} {r : Option Nat} (h : a.grownBy b r) (k : b.grownBy c r) : a.grownBy c r :=
  ⟨k.os.trans h.os, k.tape.trans h.tape, k.output.trans h.output, Nat.le_trans h.size k.size, fun i hi hr => (k.block i (Nat.lt_of_lt_of_le hi h.size) hr).trans (h.block i hi hr)⟩
theorem grown_refl (w : World) (r : Option Nat) : w.grownBy w r := ⟨rfl, rfl, rfl, Nat.le_refl _, fun _ _ _ => rfl⟩

set_option maxHeartbeats 400000 in
theorem putWord_own (b off len cap : Nat) (x : Int) (w : World) (A : Array Value) (t : TypeId) (ho : Own w b A t) (hfit : off + 8 ≤ A.size) (hl : 8 ≤ len) (_hc : len ≤ cap) (_hx : 0 ≤ x) (_hx' : x < 18446744073709551616) :
    Calls Tryd.prog 14 #[.slice (some ⟨b, off, none⟩) len cap, .int .u64 x] w fun e w' => e = .returned (.tuple #[]) ∧ Own w' b (put8 A off x 8) t ∧ w.grownBy w' (some b) := by
  have hli : (8 : Int) ≤ (len : Int) := by omega
  go_enter Tryd.func14, Tryd.ntmps14
  go_wp2
  go_loopw [5] (fun i wr => ∃ k : Nat, k ≤ 8 ∧ i = .int .i64 k ∧ Own wr b (put8 A off x k) t ∧ w.grownBy wr (some b)) (fun i _ => 8 - (intOf i).toNat)
  case atStart => exact ⟨0, by omega, rfl, ho, grown_refl _ _⟩
  case round =>
    clear ho
    obtain ⟨k, hk, rfl, ho, hg⟩ := hrel
    by_cases hlt : k < 8
    · have hki : (k : Int) < 8 := by omega
      have hk0 : (0 : Int) ≤ (k : Int) := by omega
      have hkl : (k : Int) < (len : Int) := by omega
      have hsz : off + k < (put8 A off x k).size := by rw [put8_size]; omega
      have c0 := ho.cell (Array.getElem?_eq_getElem hsz)
      have f0 := ho.frozen (off + k)
      go_wp2
      go_roundw
      case rel => exact ⟨k + 1, by omega, by go_num, ho.setCell _ _, grown_trans hg (grown_setCell _ _ _ _)⟩
      case measure => simp [intOf]; omega
    · have Hk : Hid (k = 8) := show k = 8 by omega
      have hki : ¬ (k : Int) < 8 := by omega
      go_wp2
      go_end0
      exact ⟨rfl, by rw [← Hk.out]; exact ho, hg⟩
end Go.Proofs.YtbofcnmhdjleeaaDoor
