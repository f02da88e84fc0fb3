/- The walk of the law CrcRest. -/
import Derived.Test.YtcpapcopnmapmaaDoorL1
namespace Go.Proofs.YtcpapcopnmapmaaDoor
open Go.RowKit
/-- A sum's four bytes, as the program cuts them. -/
def cut4 (n : Nat) : List Int := [(n : Int) % 256, (n : Int) / 256 % 256, (n : Int) / 65536 % 256, (n : Int) / 16777216]
theorem cut4_eq (n : Nat) (h : n < 4294967296) : cut4 n = le4 n := by
  unfold cut4 le4
  rw [show (n : Int) % 256 = ((n % 256 : Nat) : Int) by omega, show (n : Int) / 256 % 256 = ((n / 256 % 256 : Nat) : Int) by omega, show (n : Int) / 65536 % 256 = ((n / 65536 % 256 : Nat) : Int) by omega, show (n : Int) / 16777216 = ((n / 16777216 % 256 : Nat) : Int) by omega]
theorem four_new (w : World) (n : Nat) (h : n < 4294967296) : BytesV (w.alloc (.cells #[.int .u8 ((n : Int) % 256), .int .u8 ((n : Int) / 256 % 256), .int .u8 ((n : Int) / 65536 % 256), .int .u8 ((n : Int) / 16777216)] 5)) (some ⟨w.heap.size, 0, none⟩) 4 4 (le4 n) := by
  have e := cut4_eq n h
  have := bytesV_new w (cut4 n) (0, 0) (by rw [e]; exact le4_bys n) (show 4 ≤ maxLen by decide)
  rw [← e]; exact this
set_option maxRecDepth 100000 in
set_option maxHeartbeats 2000000 in
theorem rest_any (a : Option Addr) (len cap : Nat) (m : List Int) (w : World) (hm : BytesV w a len cap m) (hn : a = none → cap = 0) (hT : Tabs w) :
    Calls Tryd.prog 4 #[.slice a len cap] w fun e w' => e = .returned (.bool true) ∧ Below w.heap.size w w' := by
  by_cases hlen : 400 < len
  · have hi : (400 : Int) < (len : Int) := by omega
    go_enter Tryd.func4, Tryd.ntmps4
    go_wp2_with fail
    go_ret
    exact ⟨rfl, Below.refl _ _⟩
  · have hi : ¬ (400 : Int) < (len : Int) := by omega
    have hi' : (len : Int) ≤ 400 := by omega
    go_enter Tryd.func4, Tryd.ntmps4
    go_wp2_with fail
    have hml := hm.1
    subst hml
    refine (sum_any a m.length cap m w hm hT).mono ?_
    rintro e w1 ⟨rfl, rfl⟩
    have hby := hm.2.2.2.1
    have Hc := show Hid _ from crc_rest m hby
    have hlt := crc_lt m hby
    generalize crc m = n at *
    go_wp2_with fail
    refine (twin_any a cap m w1 hm hn (by omega)).mono ?_
    rintro e w2 ⟨a1, cap1, rfl, hO, hV, hg⟩
    have hb := below_none hg
    have hb2 := alloc_below w2 (.cells #[.int .u8 ((n : Int) % 256), .int .u8 ((n : Int) / 256 % 256), .int .u8 ((n : Int) / 65536 % 256), .int .u8 ((n : Int) / 16777216)] 5)
    have h4 := four_new w2 n hlt
    have hO2 := hO.below hb2
    have hsz : (w2.alloc (.cells #[.int .u8 ((n : Int) % 256), .int .u8 ((n : Int) / 256 % 256), .int .u8 ((n : Int) / 65536 % 256), .int .u8 ((n : Int) / 16777216)] 5)).heap.size = w2.heap.size + 1 := World.size_alloc _ _
    go_wp2_with (at_builtin; refine wpList_append_bytes (by rfl) (.tmp 10) (.tmp 22) (by rfl) w1.heap.size (.slice a1 m.length cap1) m (by rfl) hO2 hby (some ⟨w2.heap.size, 0, none⟩) 4 4 (le4 n) (by rfl) h4 (fun e => by cases e) (by show m.length + 4 ≤ _; omega) (Nat.le_trans hb.size hb2.size) ?_; intro a3 cap3 w3 hO3 hg3 hV3)
    have hb3 := (bel hb hb2).grown hg3 (bel hb hb2).size (fun k e => hO2.base_le e)
    clear hg3 hb2 hO2 h4 hsz
    go_wp2_with fail
    refine (sum_any a3 (m.length + 4) cap3 (m ++ le4 n) w3 hV3 (hT.below hb3)).mono ?_
    rintro e w4 ⟨rfl, rfl⟩
    rw [Hc.out]
    go_wp2_with fail
    refine (wakes_any _ (hT.below hb3)).mono ?_
    rintro e w5 ⟨rfl, hb4⟩
    go_wp2
    go_ret
    exact ⟨rfl, bel hb3 hb4⟩
end Go.Proofs.YtcpapcopnmapmaaDoor
