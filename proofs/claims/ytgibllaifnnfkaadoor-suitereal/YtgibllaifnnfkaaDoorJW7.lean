/- The walk of the function Sum. -/
import Derived.Test.YtgibllaifnnfkaaDoorJW6
namespace Go.Proofs.YtgibllaifnnfkaaDoor.J
open Go.RowKit

/-- The value of a slice of the bytes m. -/
def BytesV (w : World) (a : Option Addr) (len cap : Nat) (m : List Int) : Prop :=
  len = m.length ∧ len ≤ cap ∧ cap ≤ maxLen ∧ Bys m ∧ (0 < len → ∃ b off, a = some ⟨b, off, none⟩ ∧ w.rangeAt b off (u8s m))
theorem BytesV.below {w w' : World} {a : Option Addr} {len cap : Nat} {m : List Int} (h : BytesV w a len cap m) (hB : Below w.heap.size w w') : BytesV w' a len cap m := by
  obtain ⟨h1, h2, h3, h4, h5⟩ := h
  refine ⟨h1, h2, h3, h4, fun hp => ?_⟩
  obtain ⟨b, off, e, hr⟩ := h5 hp
  exact ⟨b, off, e, fun j v hv => by
    have := hr j v hv
    rw [hB.cell (World.block_lt_of_cell? w _ this)]; exact this⟩
theorem range_lt {w : World} {b off : Nat} {m : List Int} (h : w.rangeAt b off (u8s m)) (hm : 0 < m.length) : b < w.heap.size :=
  World.block_lt_of_cell? w _ (h 0 (.int .u8 (m[0])) (by simp [u8s, hm]))
theorem BytesV.slice {w w' : World} {a : Option Addr} {len cap g : Nat} {m : List Int} (h : BytesV w a len cap m) (hB : Below w.heap.size w w') (hg : w.heap.size ≤ g) : SliceOf w' g (.slice a len cap) m := by
  have h' := h.below hB
  obtain ⟨h1, h2, h3, h4, h5⟩ := h'
  refine ⟨a, len, cap, rfl, h1, h2, h3, h4, fun hp => ?_⟩
  obtain ⟨b, off, e, hr⟩ := h5 hp
  obtain ⟨b', off', e', hr'⟩ := h.2.2.2.2 hp
  have hlt := range_lt hr' (by omega)
  rw [e] at e'
  simp only [Option.some.injEq, Addr.mk.injEq] at e'
  exact ⟨b, off, e, by omega, hr⟩
theorem Tabs.below {w w' : World} (h : Tabs w) (hB : Below w.heap.size w w') : Tabs w' := h.grown (g := w.heap.size) (grown_below hB _) ⟨h.2.1, h.1.1⟩
theorem ShaAt.below {w w' : World} {g B : Nat} {l : List Int} (h : ShaAt w g l) (hB : Below B w w') (hg : g < B) : ShaAt w' g l := by
  obtain ⟨bl, s, tl, htl, btl, ho, hst, hrest⟩ := h
  exact ⟨bl, s, tl, htl, btl, ho.below hB hg, hst, hrest⟩
theorem ShaAt.lt {w : World} {g : Nat} {l : List Int} (h : ShaAt w g l) : g < w.heap.size := by
  obtain ⟨bl, s, tl, htl, btl, ho, hst, hrest⟩ := h
  exact ho.lt
theorem digest_length (l : List Int) : (digest l).length = 32 := by
  have := sumL_length (endSt l) 8 (by omega)
  rw [sumL_eight, u8s, List.length_map] at this; exact this

set_option maxRecDepth 100000 in
set_option maxHeartbeats 2000000 in
theorem sum_any (a : Option Addr) (len cap : Nat) (m : List Int) (w : World) (hm : BytesV w a len cap m) (hT : Tabs w) (hn : m.length ≤ 549755813888) :
    Calls Tryd.prog 12 #[.slice a len cap] w fun e w' => e = .returned (.agg (u8s (digest m)).toArray) ∧ Below w.heap.size w w' := by
  have hz := (zero_of_info zero47).1
  go_enter Tryd.func12, Tryd.ntmps12
  go_upto_region 1 with fail
  have oR := own_new w (Array.replicate 32 (Value.int .u8 0)) 22
  have hb1 := (Below.refl w.heap.size w).alloc (Nat.le_refl _) (.cells (Array.replicate 32 (Value.int .u8 0)) 22)
  generalize hW1 : w.alloc (.cells (Array.replicate 32 (Value.int .u8 0)) 22) = W1 at *
  rw [show w.alloc (.cells #[.int .u8 0, .int .u8 0, .int .u8 0, .int .u8 0, .int .u8 0, .int .u8 0, .int .u8 0, .int .u8 0, .int .u8 0, .int .u8 0, .int .u8 0, .int .u8 0, .int .u8 0, .int .u8 0, .int .u8 0, .int .u8 0, .int .u8 0, .int .u8 0, .int .u8 0, .int .u8 0, .int .u8 0, .int .u8 0, .int .u8 0, .int .u8 0, .int .u8 0, .int .u8 0, .int .u8 0, .int .u8 0, .int .u8 0, .int .u8 0, .int .u8 0, .int .u8 0] 22) = W1 from hW1]
  clear hW1
  have hlt1 := oR.lt
  go_upto_region 2 with fail
  have oE := own_new W1 zeroSha 49
  have oR := oR.alloc (.cells zeroSha 49)
  have hb2 := hb1.alloc hb1.size (.cells zeroSha 49)
  generalize W1.alloc (.cells zeroSha 49) = W2 at *
  have hS := shaAt_zero W2 W1.heap.size oE
  have hg1 : 2 < W1.heap.size ∧ 5 < W1.heap.size := ⟨Nat.lt_of_lt_of_le hT.2.1 hb1.size, Nat.lt_of_lt_of_le hT.1.1 hb1.size⟩
  have hsl := hm.slice (g := W1.heap.size) hb2 hb1.size
  have hT2 := hT.below hb2
  generalize W1.heap.size = E at *
  clear hz
  go_wp2_with fail
  refine (write_any E [] m _ _ _ _ hS hsl hT2 hg1 (by simp; omega)).mono ?_
  rintro e w3 ⟨rfl, hS3, hg3⟩
  rw [List.nil_append] at hS3
  have hb3 := below_grown hb2 hg3 hb2.size (by omega)
  have hT3 := hT.below hb3
  have oR3 : Own w3 w.heap.size (Array.replicate 32 (.int .u8 0)) 22 := by unfold Own; rw [hg3.block _ oR.lt (by simp; omega)]; exact oR
  clear hS hsl hT2 hb2 oR
  go_wp2_with fail
  refine (sumM_any E m _ hS3 hT3 hn).mono ?_
  rintro e w4 ⟨rfl, hb4⟩
  have oR4 := oR3.below hb4 oR3.lt
  have hb5 := hb3.trans (hb4.mono hb3.size)
  have hsz : (u8s (digest m)).toArray.size = 32 := by rw [List.size_toArray, u8s, List.length_map]; exact digest_length m
  have hi : (Tryd.prog.info? 22).map (·.size) = some (u8s (digest m)).toArray.size := by rw [info25, hsz]
  have h1 : (u8s (digest m)).toArray.all (·.oneCell') = true := all_oneCell_toArray (u8s_one _)
  generalize hA : (u8s (digest m)).toArray = A at *
  have HA := show Hid _ from hA
  clear hA
  have hfit : 0 + A.size ≤ (Array.replicate 32 (Value.int .u8 0)).size := by rw [hsz, Array.size_replicate]; decide
  go_wp2_with (refine wpList_store_own (by rfl) 22 (.tmp 2) (.tmp 6) (by rfl) w.heap.size 0 A (by rfl) (by rfl) oR4 hfit hi h1 (by rfl) ?_)
  refine bodyPost_ret (results_own Tryd.results12 _ _ w.heap.size A _ rfl (own_setCells oR4 (by rw [hsz, Array.size_replicate])) Tryd.underlying22 rfl hi) rfl ⟨by rw [HA.out], ?_⟩
  exact Below.setCells _ _ _ _ (Nat.le_refl _) hb5
end Go.Proofs.YtgibllaifnnfkaaDoor.J
