/- The walk of the law CrcForgets. -/
import Derived.Test.YtcpapcopnmapmaaDoorL2
namespace Go.Proofs.YtcpapcopnmapmaaDoor
open Go.RowKit
/-- The cells of a sum's four bytes. -/
def cells4 (n : Nat) : Array Value := #[.int .u8 ((n : Int) % 256), .int .u8 ((n : Int) / 256 % 256), .int .u8 ((n : Int) / 65536 % 256), .int .u8 ((n : Int) / 16777216)]
set_option maxRecDepth 100000 in
set_option maxHeartbeats 4000000 in
theorem forgets_any (a : Option Addr) (len cap : Nat) (m : List Int) (a' : Option Addr) (len' cap' : Nat) (m' : List Int) (a'' : Option Addr) (len'' cap'' : Nat) (m'' : List Int) (w : World)
    (hm : BytesV w a len cap m) (hn : a = none → cap = 0) (hm' : BytesV w a' len' cap' m') (hn' : a' = none → cap' = 0) (hm'' : BytesV w a'' len'' cap'' m'') (hn'' : a'' = none → cap'' = 0) (hT : Tabs w) :
    Calls Tryd.prog 7 #[.slice a len cap, .slice a' len' cap', .slice a'' len'' cap''] w fun e w' => e = .returned (.bool true) ∧ Below w.heap.size w w' := by
  by_cases hl0 : 400 < len
  · have hi : (400 : Int) < (len : Int) := by omega
    go_enter Tryd.func7, Tryd.ntmps7
    go_wp2_with fail
    go_ret
    exact ⟨rfl, Below.refl _ _⟩
  have hi0 : ¬ (400 : Int) < (len : Int) := by omega
  have hj0 : (len : Int) ≤ 400 := by omega
  by_cases hl1 : 400 < len'
  · have hi : (400 : Int) < (len' : Int) := by omega
    go_enter Tryd.func7, Tryd.ntmps7
    go_wp2_with fail
    go_ret
    exact ⟨rfl, Below.refl _ _⟩
  have hi1 : ¬ (400 : Int) < (len' : Int) := by omega
  have hj1 : (len' : Int) ≤ 400 := by omega
  by_cases hl2 : 400 < len''
  · have hi : (400 : Int) < (len'' : Int) := by omega
    go_enter Tryd.func7, Tryd.ntmps7
    go_wp2_with fail
    go_ret
    exact ⟨rfl, Below.refl _ _⟩
  have hi2 : ¬ (400 : Int) < (len'' : Int) := by omega
  have hj2 : (len'' : Int) ≤ 400 := by omega
  have hml := hm.1
  have hml' := hm'.1
  have hml'' := hm''.1
  subst hml hml' hml''
  have hby := hm.2.2.2.1
  have hby' := hm'.2.2.2.1
  have Hc := show Hid _ from crc_forgets m m' m'' hby hby'
  have hlt := crc_lt m hby
  have hlt' := crc_lt m' hby'
  go_enter Tryd.func7, Tryd.ntmps7
  go_wp2_with fail
  refine (sum_any a m.length cap m w hm hT).mono ?_
  rintro e w1 ⟨rfl, rfl⟩
  go_wp2_with fail
  refine (sum_any a' m'.length cap' m' w1 hm' hT).mono ?_
  rintro e w2 ⟨rfl, rfl⟩
  generalize crc m = x at *
  generalize crc m' = y at *
  go_wp2_with fail
  refine (twin_any a cap m w2 hm hn (by omega)).mono ?_
  rintro e w3 ⟨a3, cap3, rfl, hO, hV, hg⟩
  have hb := below_none hg
  have hb2 := alloc_below w3 (.cells (cells4 x) 5)
  have h4 : BytesV (w3.alloc (.cells (cells4 x) 5)) (some ⟨w3.heap.size, 0, none⟩) 4 4 (le4 x) := four_new w3 x hlt
  have hO2 := hO.below hb2
  have hb4 := bel hb hb2
  have hm2 := hm''.below hb4
  clear hg hV hb2 hb hO
  have hbs : w2.heap.size ≤ (w3.alloc (.cells (cells4 x) 5)).heap.size := hb4.size
  have hm5q := fun (wq : World) (h : Below w2.heap.size w2 wq) => hm''.below h
  go_wp2_with (at_builtin; first | (refine wpList_append_bytes (by rfl) (.tmp 29) (.tmp 41) (by rfl) w2.heap.size (.slice a3 m.length cap3) m (by rfl) hO2 hby (some ⟨w3.heap.size, 0, none⟩) 4 4 (le4 x) (by rfl) h4 (fun e => by cases e) (by show m.length + 4 ≤ _; omega) hbs ?_; intro a5 cap5 w5 hO5 hg5 hV5; have hb5 := hb4.grown hg5 hb4.size (fun k e => hO2.base_le e); have hm5 := hm5q _ hb5; have hl5 : (le4 x).length = 4 := (by rfl); clear hg5 hO2 h4) | (refine wpList_append_bytes (by rfl) (.tmp 42) (.tmp 43) (by rfl) w2.heap.size (.slice a5 (m.length + (le4 x).length) cap5) (m ++ le4 x) (by rfl) hO5 (hby.append (le4_bys x)) a'' m''.length cap'' m'' (by rfl) hm5 hn'' (by rw [List.length_append, hl5]; omega) hb5.size ?_; intro a6 cap6 w6 hO6 hg6 hV6; have hb6 := hb5.grown hg6 hb5.size (fun k e => hO5.base_le e); clear hg6 hO5 hV5 hm5))
  rw [List.length_append, hl5] at hV6
  clear hO6 hb5 hb4 hm2 hbs hl5 hm5q
  refine (twin_any a' cap' m' w6 (hm'.below hb6) hn' (by omega)).mono ?_
  rintro e w7 ⟨a7, cap7, rfl, hO, hV, hg⟩
  have hb := below_none hg
  have hb2 := alloc_below w7 (.cells (cells4 y) 5)
  have h4' : BytesV (w7.alloc (.cells (cells4 y) 5)) (some ⟨w7.heap.size, 0, none⟩) 4 4 (le4 y) := four_new w7 y hlt'
  have hO2' := hO.below hb2
  have hb4' := bel hb hb2
  clear hg hV hb2 hb hO
  have hbs' : w6.heap.size ≤ (w7.alloc (.cells (cells4 y) 5)).heap.size := hb4'.size
  have hm5q' := fun (wq : World) (h : Below w6.heap.size w6 wq) => (hm''.below hb6).below h
  go_wp2_with (at_builtin; first | (refine wpList_append_bytes (by rfl) (.tmp 46) (.tmp 58) (by rfl) w6.heap.size (.slice a7 m'.length cap7) m' (by rfl) hO2' hby' (some ⟨w7.heap.size, 0, none⟩) 4 4 (le4 y) (by rfl) h4' (fun e => by cases e) (by show m'.length + 4 ≤ _; omega) hbs' ?_; intro a5' cap5' w5' hO5' hg5' hV5'; have hb5' := hb4'.grown hg5' hb4'.size (fun k e => hO2'.base_le e); have hm5' := hm5q' _ hb5'; have hl5' : (le4 y).length = 4 := (by rfl); clear hg5' hO2' h4') | (refine wpList_append_bytes (by rfl) (.tmp 59) (.tmp 60) (by rfl) w6.heap.size (.slice a5' (m'.length + (le4 y).length) cap5') (m' ++ le4 y) (by rfl) hO5' (hby'.append (le4_bys y)) a'' m''.length cap'' m'' (by rfl) hm5' hn'' (by rw [List.length_append, hl5']; omega) hb5'.size ?_; intro a6' cap6' w6' hO6' hg6' hV6'; have hb6' := hb5'.grown hg6' hb5'.size (fun k e => hO5'.base_le e); clear hg6' hO5' hV5' hm5'))
  rw [List.length_append, hl5'] at hV6'
  have hVp := hV6.below hb6'
  have hb7 := bel hb6 hb6'
  clear hO6' hb5' hb4' hbs' hl5' hm5q' hV6
  refine (sum_any a6 _ cap6 _ w6' hVp (hT.below hb7)).mono ?_
  rintro e w8 ⟨rfl, rfl⟩
  obtain ⟨z, Hz⟩ : ∃ z, Hid (crc (m' ++ le4 y ++ m'') = z) := ⟨_, rfl⟩
  rw [Hc.out, Hz.out]
  go_wp2_with fail
  refine (sum_any a6' _ cap6' _ w8 hV6' (hT.below hb7)).mono ?_
  rintro e w9 ⟨rfl, rfl⟩
  rw [Hz.out]
  have hbe : ((z : Int) == (z : Int)) = true := beq_self_eq_true _
  go_wp2_with fail
  refine (sum_any none 0 0 [] w9 (bytesV_nil _) (hT.below hb7)).mono ?_
  rintro e w10 ⟨rfl, rfl⟩
  rw [crc_none]
  go_wp2_with fail
  refine (wakes_any _ (hT.below hb7)).mono ?_
  rintro e w11 ⟨rfl, hb8⟩
  go_wp2
  go_ret
  exact ⟨rfl, bel hb7 hb8⟩
end Go.Proofs.YtcpapcopnmapmaaDoor
