/- The walk of wakes. -/
import Derived.Test.YtomlekmbkbgnfaaDoorW7
import Derived.Test.YtomlekmbkbgnfaaDoorM3
import Derived.Lib.SlBytesConst
namespace Go.Proofs.YtomlekmbkbgnfaaDoor
open Go.RowKit
set_option maxRecDepth 100000 in
set_option maxHeartbeats 2000000 in
theorem wakes_any (w : World) (hT : Tabs w) :
    Calls Tryd.prog 17 #[] w fun e w' => e = .returned (.bool true) ∧ Below w.heap.size w w' := by
  have kc := fun (w : World) (C : Array Value) (n c : Nat) => Lib.run_convert_bytes_const (P := Tryd.prog) w 22 5 C n c Tryd.underlying22 Tryd.underlying5
  go_enter Tryd.func17, Tryd.ntmps17
  go_wp2_with fail
  have hb1 := (Below.refl w.heap.size w).alloc (Nat.le_refl _) (.cells #[.int .u8 97, .int .u8 98, .int .u8 99] 5 (3, 4))
  have hr : (w.alloc (.cells #[.int .u8 97, .int .u8 98, .int .u8 99] 5 (3, 4))).rangeAt w.heap.size 0 (u8s [97, 98, 99]) := fun j v hv => by
    rw [Nat.zero_add, cell_of_row _ w.heap.size j #[.int .u8 97, .int .u8 98, .int .u8 99] 5 (3, 4) (heap_alloc_last w _)]
    simpa [u8s] using hv
  have hv : BytesV (w.alloc (.cells #[.int .u8 97, .int .u8 98, .int .u8 99] 5 (3, 4))) (some ⟨w.heap.size, 0, none⟩) 3 3 [97, 98, 99] :=
    ⟨rfl, by decide, by decide, fun x hx => by simp at hx; omega, fun _ => ⟨_, _, rfl, hr⟩⟩
  refine (sum_any _ _ _ [97, 98, 99] _ hv (hT.below hb1) (by decide)).mono ?_
  rintro e w2 ⟨rfl, hb2⟩
  have hb3 := hb1.trans (hb2.mono (by simp))
  have hsz : (u8s (digest [97, 98, 99])).toArray.size = 32 := by rw [List.size_toArray, u8s, List.length_map]; exact digest_length _
  have hi : (Tryd.prog.info? 25).map (·.size) = some (u8s (digest [97, 98, 99])).toArray.size := by rw [info25, hsz]
  have h1 : (u8s (digest [97, 98, 99])).toArray.all (·.oneCell') = true := all_oneCell_toArray (u8s_one _)
  have a0 : (u8s (digest [97, 98, 99])).toArray[0]? = some (.int .u8 186) := by rw [digest_abc]; rfl
  have a1 : (u8s (digest [97, 98, 99])).toArray[1]? = some (.int .u8 120) := by rw [digest_abc]; rfl
  have a2 : (u8s (digest [97, 98, 99])).toArray[2]? = some (.int .u8 22) := by rw [digest_abc]; rfl
  have a3 : (u8s (digest [97, 98, 99])).toArray[3]? = some (.int .u8 191) := by rw [digest_abc]; rfl
  have a30 : (u8s (digest [97, 98, 99])).toArray[30]? = some (.int .u8 21) := by rw [digest_abc]; rfl
  have a31 : (u8s (digest [97, 98, 99])).toArray[31]? = some (.int .u8 173) := by rw [digest_abc]; rfl
  generalize (u8s (digest [97, 98, 99])).toArray = A at *
  clear hb1 hb2 hr hv kc
  go_upto_region 2 with (refine wpList_store_new (by rfl) 25 (.tmp 1) (.tmp 4) (by rfl) _ A (by rfl) (by rfl) hi (by rw [hsz]; rfl) h1 (by rfl) ?_)
  have oA := own_new w2 A 25
  have hb4 := hb3.alloc hb3.size (.cells A 25)
  generalize w2.alloc (.cells A 25) = W at *
  have c0 := oA.cell a0
  have c1 := oA.cell a1
  have c2 := oA.cell a2
  have c3 := oA.cell a3
  have c30 := oA.cell a30
  have c31 := oA.cell a31
  clear a0 a1 a2 a3 a30 a31 hi h1 hsz oA
  go_wp2
  go_ret
  exact ⟨rfl, hb4⟩
end Go.Proofs.YtomlekmbkbgnfaaDoor
