/- The page's heads. -/
import Derived.Test.YtaabcllghniaoabDoorHB1
namespace Go.Proofs.YtaabcllghniaoabDoor
open Go Go.RowKit
theorem or_low : ∀ (a : Fin 8) (b : Fin 32), bits .or .u8 ((a.val : Int) * 32) (b.val : Int) = (a.val : Int) * 32 + (b.val : Int) := by decide +kernel
theorem or_low_nat {a b : Nat} (ha : a ≤ 7) (hb : b < 32) : bits .or .u8 ((a : Int) * 32) (b : Int) = ((32 * a + b : Nat) : Int) := by
  have h := or_low ⟨a, by omega⟩ ⟨b, hb⟩
  simp only at h
  rw [h, Int.natCast_add, Int.natCast_mul, Int.mul_comm]
  rfl
theorem own_one {w : World} {base : Nat} {x : Int} (hb : base ≤ w.heap.size) : OwnBytes (w.alloc (.cells #[.int .u8 x] 5)) base (.slice (some ⟨w.heap.size, 0, none⟩) 1 1) [x] :=
  ⟨rfl, .inr ⟨w.heap.size, 1, #[.int .u8 x], rfl, hb, own_new w _ _, Nat.le_refl _, by unfold maxLen; omega, rfl, rfl⟩⟩
set_option maxRecDepth 100000 in
set_option maxHeartbeats 1000000 in
theorem phead_is (mj n : Nat) (hm : mj ≤ 7) (hn : n < 9223372036854775808) (w : World) : Calls Tryd.prog 30 #[.int .i64 mj, .int .i64 n] w fun e w' => ∃ a c, e = .returned (.slice a (1 + hsize n) c) ∧ OwnBytes w' w.heap.size (.slice a (1 + hsize n) c) (hd mj n) ∧ Below w.heap.size w w' := by
  have hm0 : (0 : Int) ≤ (mj : Int) := by omega
  have hm7 : (mj : Int) ≤ 7 := by omega
  have hn0 : (0 : Int) ≤ (n : Int) := by omega
  have hn1 : (n : Int) ≤ 9223372036854775807 := by omega
  by_cases h1 : n < 24
  · have h1' : (n : Int) < 24 := by omega
    have hor : Hid (bits .or .u8 ((mj : Int) * 32) (n : Int) = ((32 * mj + n : Nat) : Int)) := or_low_nat hm (by omega)
    have hs : Hid (hsize n = 0 ∧ hd mj n = [((32 * mj + n : Nat) : Int)]) := by
      have e : hsize n = 0 := by unfold hsize; rw [if_pos h1]
      refine ⟨e, ?_⟩
      rw [hd, e, be]
      unfold hlow
      rw [if_pos h1]
    go_enter Tryd.func30, Tryd.ntmps30
    go_wp2_with fail
    go_ret
    rw [hs.out.1, hs.out.2, hor.out]
    exact ⟨_, _, rfl, own_one (Nat.le_refl _), (Below.refl _ _).alloc (Nat.le_refl _) _⟩
  have h1n : ¬ (n : Int) < 24 := by omega
  by_cases h2 : n < 256
  · have h2' : (n : Int) < 256 := by omega
    have hor : Hid (bits .or .u8 ((mj : Int) * 32) 24 = ((32 * mj + 24 : Nat) : Int)) := or_low_nat (b := 24) hm (by decide)
    have hs : Hid (hsize n = 1 ∧ hd mj n = ((32 * mj + 24 : Nat) : Int) :: be n 1) := by
      have e : hsize n = 1 := by unfold hsize; rw [if_neg h1, if_pos h2]
      refine ⟨e, ?_⟩
      rw [hd, e]
      unfold hlow
      rw [if_neg h1, if_pos h2]
    have hbx : Hid (0 ≤ bits .or .u8 ((mj : Int) * 32) 24 ∧ bits .or .u8 ((mj : Int) * 32) 24 < 256) := by show _ ∧ _; rw [hor.out]; omega
    go_enter Tryd.func30, Tryd.ntmps30
    go_wp2_with fail
    refine (pbe_is n 1 hn (by decide) _).mono ?_
    rintro e w2 ⟨a2, c2, rfl, hO2, hb2⟩
    obtain ⟨a3, c3, e3, hV⟩ := hO2.form (be_bys n 1)
    have hno := own_none hO2
    have hO1 := (own_one (w := w) (x := bits .or .u8 ((mj : Int) * 32) 24) (Nat.le_refl w.heap.size)).below hb2
    rw [be_length] at hV e3
    simp only [Value.slice.injEq] at e3
    obtain ⟨rfl, -, rfl⟩ := e3
    have hB := ((Below.refl w.heap.size w).alloc (Nat.le_refl _) (.cells #[.int .u8 (bits .or .u8 ((mj : Int) * 32) 24)] 5)).trans (hb2.mono (by simp))
    go_wp2_with (at_builtin; refine wpList_append_bytes (by rfl) (.tmp 20) (.tmp 22) (by rfl) w.heap.size _ _ (by rfl) hO1 (fun x hx => by obtain rfl := List.mem_singleton.1 hx; exact hbx.out) _ 1 _ (be n 1) (by rfl) hV hno (by rw [be_length]; simp) hB.size ?_; intro a4 c4 w4 hO4 hg4 hV4)
    go_ret
    have hb4 : Below w.heap.size w w4 := hB.grown hg4 hB.size (fun g e => hO1.base_le e)
    rw [hs.out.1, hs.out.2]
    rw [hor.out, be_length] at hO4
    exact ⟨a4, c4, rfl, hO4, hb4⟩
  have h2n : ¬ (n : Int) < 256 := by omega
  by_cases h3 : n < 65536
  · have h3' : (n : Int) < 65536 := by omega
    have hor : Hid (bits .or .u8 ((mj : Int) * 32) 25 = ((32 * mj + 25 : Nat) : Int)) := or_low_nat (b := 25) hm (by decide)
    have hs : Hid (hsize n = 2 ∧ hd mj n = ((32 * mj + 25 : Nat) : Int) :: be n 2) := by
      have e : hsize n = 2 := by unfold hsize; rw [if_neg h1, if_neg h2, if_pos h3]
      refine ⟨e, ?_⟩
      rw [hd, e]
      unfold hlow
      rw [if_neg h1, if_neg h2, if_pos h3]
    have hbx : Hid (0 ≤ bits .or .u8 ((mj : Int) * 32) 25 ∧ bits .or .u8 ((mj : Int) * 32) 25 < 256) := by show _ ∧ _; rw [hor.out]; omega
    go_enter Tryd.func30, Tryd.ntmps30
    go_wp2_with fail
    refine (pbe_is n 2 hn (by decide) _).mono ?_
    rintro e w2 ⟨a2, c2, rfl, hO2, hb2⟩
    obtain ⟨a3, c3, e3, hV⟩ := hO2.form (be_bys n 2)
    have hno := own_none hO2
    have hO1 := (own_one (w := w) (x := bits .or .u8 ((mj : Int) * 32) 25) (Nat.le_refl w.heap.size)).below hb2
    rw [be_length] at hV e3
    simp only [Value.slice.injEq] at e3
    obtain ⟨rfl, -, rfl⟩ := e3
    have hB := ((Below.refl w.heap.size w).alloc (Nat.le_refl _) (.cells #[.int .u8 (bits .or .u8 ((mj : Int) * 32) 25)] 5)).trans (hb2.mono (by simp))
    go_wp2_with (at_builtin; refine wpList_append_bytes (by rfl) (.tmp 28) (.tmp 30) (by rfl) w.heap.size _ _ (by rfl) hO1 (fun x hx => by obtain rfl := List.mem_singleton.1 hx; exact hbx.out) _ 2 _ (be n 2) (by rfl) hV hno (by rw [be_length]; simp) hB.size ?_; intro a4 c4 w4 hO4 hg4 hV4)
    go_ret
    have hb4 : Below w.heap.size w w4 := hB.grown hg4 hB.size (fun g e => hO1.base_le e)
    rw [hs.out.1, hs.out.2]
    rw [hor.out, be_length] at hO4
    exact ⟨a4, c4, rfl, hO4, hb4⟩
  have h3n : ¬ (n : Int) < 65536 := by omega
  by_cases h4 : n < 4294967296
  · have h4' : (n : Int) < 4294967296 := by omega
    have hor : Hid (bits .or .u8 ((mj : Int) * 32) 26 = ((32 * mj + 26 : Nat) : Int)) := or_low_nat (b := 26) hm (by decide)
    have hs : Hid (hsize n = 4 ∧ hd mj n = ((32 * mj + 26 : Nat) : Int) :: be n 4) := by
      have e : hsize n = 4 := by unfold hsize; rw [if_neg h1, if_neg h2, if_neg h3, if_pos h4]
      refine ⟨e, ?_⟩
      rw [hd, e]
      unfold hlow
      rw [if_neg h1, if_neg h2, if_neg h3, if_pos h4]
    have hbx : Hid (0 ≤ bits .or .u8 ((mj : Int) * 32) 26 ∧ bits .or .u8 ((mj : Int) * 32) 26 < 256) := by show _ ∧ _; rw [hor.out]; omega
    go_enter Tryd.func30, Tryd.ntmps30
    go_wp2_with fail
    refine (pbe_is n 4 hn (by decide) _).mono ?_
    rintro e w2 ⟨a2, c2, rfl, hO2, hb2⟩
    obtain ⟨a3, c3, e3, hV⟩ := hO2.form (be_bys n 4)
    have hno := own_none hO2
    have hO1 := (own_one (w := w) (x := bits .or .u8 ((mj : Int) * 32) 26) (Nat.le_refl w.heap.size)).below hb2
    rw [be_length] at hV e3
    simp only [Value.slice.injEq] at e3
    obtain ⟨rfl, -, rfl⟩ := e3
    have hB := ((Below.refl w.heap.size w).alloc (Nat.le_refl _) (.cells #[.int .u8 (bits .or .u8 ((mj : Int) * 32) 26)] 5)).trans (hb2.mono (by simp))
    go_wp2_with (at_builtin; refine wpList_append_bytes (by rfl) (.tmp 36) (.tmp 38) (by rfl) w.heap.size _ _ (by rfl) hO1 (fun x hx => by obtain rfl := List.mem_singleton.1 hx; exact hbx.out) _ 4 _ (be n 4) (by rfl) hV hno (by rw [be_length]; simp) hB.size ?_; intro a4 c4 w4 hO4 hg4 hV4)
    go_ret
    have hb4 : Below w.heap.size w w4 := hB.grown hg4 hB.size (fun g e => hO1.base_le e)
    rw [hs.out.1, hs.out.2]
    rw [hor.out, be_length] at hO4
    exact ⟨a4, c4, rfl, hO4, hb4⟩
  have h4n : ¬ (n : Int) < 4294967296 := by omega
  have hor : Hid (bits .or .u8 ((mj : Int) * 32) 27 = ((32 * mj + 27 : Nat) : Int)) := or_low_nat (b := 27) hm (by decide)
  have hs : Hid (hsize n = 8 ∧ hd mj n = ((32 * mj + 27 : Nat) : Int) :: be n 8) := by
    have e : hsize n = 8 := by unfold hsize; rw [if_neg h1, if_neg h2, if_neg h3, if_neg h4]
    refine ⟨e, ?_⟩
    rw [hd, e]
    unfold hlow
    rw [if_neg h1, if_neg h2, if_neg h3, if_neg h4]
  have hbx : Hid (0 ≤ bits .or .u8 ((mj : Int) * 32) 27 ∧ bits .or .u8 ((mj : Int) * 32) 27 < 256) := by show _ ∧ _; rw [hor.out]; omega
  go_enter Tryd.func30, Tryd.ntmps30
  go_wp2_with fail
  refine (pbe_is n 8 hn (by decide) _).mono ?_
  rintro e w2 ⟨a2, c2, rfl, hO2, hb2⟩
  obtain ⟨a3, c3, e3, hV⟩ := hO2.form (be_bys n 8)
  have hno := own_none hO2
  have hO1 := (own_one (w := w) (x := bits .or .u8 ((mj : Int) * 32) 27) (Nat.le_refl w.heap.size)).below hb2
  rw [be_length] at hV e3
  simp only [Value.slice.injEq] at e3
  obtain ⟨rfl, -, rfl⟩ := e3
  have hB := ((Below.refl w.heap.size w).alloc (Nat.le_refl _) (.cells #[.int .u8 (bits .or .u8 ((mj : Int) * 32) 27)] 5)).trans (hb2.mono (by simp))
  go_wp2_with (at_builtin; refine wpList_append_bytes (by rfl) (.tmp 42) (.tmp 44) (by rfl) w.heap.size _ _ (by rfl) hO1 (fun x hx => by obtain rfl := List.mem_singleton.1 hx; exact hbx.out) _ 8 _ (be n 8) (by rfl) hV hno (by rw [be_length]; simp) hB.size ?_; intro a4 c4 w4 hO4 hg4 hV4)
  go_ret
  have hb4 : Below w.heap.size w w4 := hB.grown hg4 hB.size (fun g e => hO1.base_le e)
  rw [hs.out.1, hs.out.2]
  rw [hor.out, be_length] at hO4
  exact ⟨a4, c4, rfl, hO4, hb4⟩
end Go.Proofs.YtaabcllghniaoabDoor
