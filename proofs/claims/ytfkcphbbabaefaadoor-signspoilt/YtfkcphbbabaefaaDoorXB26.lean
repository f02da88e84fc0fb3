/- Of the texts SJ1, HVA: what the card of this claim reaches. -/
import Derived.Test.YtfkcphbbabaefaaDoorXB25
namespace Go.Proofs.YtfkcphbbabaefaaDoor.H
open Go.RowKit
theorem upTo_bys {ms : List (List Int)} (h : ∀ m ∈ ms, Bys m) (k : Nat) : Bys (upTo ms k) := fun x hx => by
  obtain ⟨m, hm, hxm⟩ := List.mem_flatten.1 hx
  exact h m (List.mem_of_mem_take hm) x hxm
theorem rows_bys {w : World} {a : Option Addr} {len cap : Nat} {ms : List (List Int)} (h : RowsV w a len cap ms) : ∀ m ∈ ms, Bys m := fun m hm => by
  obtain ⟨i, hi⟩ := List.mem_iff_getElem?.1 hm
  have hlt := (List.getElem?_eq_some_iff.1 hi).1
  obtain ⟨b, off, e, hr⟩ := h.2.2.2 (by rw [h.1]; omega)
  obtain ⟨a', cap', -, hv, -⟩ := hr i m hi
  exact hv.2.2.2.1
theorem OwnBytes.none {w : World} {base n cap : Nat} {a : Option Addr} {xs : List Int} (h : OwnBytes w base (.slice a n cap) xs) : a = none → cap = 0 := fun e => by
  obtain ⟨h1, ⟨h2, h3⟩ | ⟨g, c, cur, h2, _⟩⟩ := h
  · simp at h2; exact h2.2.2
  · simp [e] at h2
set_option maxRecDepth 100000 in
set_option maxHeartbeats 2000000 in
theorem join_own (a : Option Addr) (len cap : Nat) (ms : List (List Int)) (w : World) (hR : RowsV w a len cap ms) (hn : ms.flatten.length ≤ 1000000) :
    Calls Tryd.prog 54 #[.slice a len cap] w fun e w' => ∃ a' cap', e = .returned (.slice a' ms.flatten.length cap') ∧ OwnBytes w' w.heap.size (.slice a' ms.flatten.length cap') ms.flatten ∧ BytesV w' a' ms.flatten.length cap' ms.flatten ∧ (a' = none → cap' = 0) ∧ Below w.heap.size w w' := by
  have hlM : len ≤ maxLen := Nat.le_trans hR.2.1 hR.2.2.1
  have hlm : (len : Int) ≤ 9223372036854775807 := by unfold maxLen at hlM; omega
  have hby := show Hid _ from rows_bys hR
  obtain ⟨l, Hl⟩ : ∃ l, Hid (ms.flatten = l) := ⟨_, rfl⟩
  have hul := fun k => upTo_le ms k
  rw [Hl.out] at hn hul ⊢
  have hul := show Hid _ from hul
  go_enter Tryd.func54, Tryd.ntmps54
  go_wp2_with fail
  go_loopw [3, 4] (fun v i wr => ∃ (k : Nat) (a' : Option Addr) (cap' : Nat), k ≤ len ∧ i = .int .i64 (k : Int) ∧ v = .slice a' (upTo ms k).length cap' ∧ OwnBytes wr w.heap.size (.slice a' (upTo ms k).length cap') (upTo ms k) ∧ Below w.heap.size w wr) (fun _ i _ => len - (intOf i).toNat)
  case atStart => exact ⟨0, none, 0, Nat.zero_le _, rfl, rfl, ownBytes_nil _ _, Below.refl _ _⟩
  case round =>
    obtain ⟨k, a1, c1, hk, rfl, rfl, hO, hb⟩ := hrel
    have bX := upTo_bys hby.out k
    by_cases hkl : k < len
    · have hki : (k : Int) < (len : Int) := by omega
      have hk0 : (0 : Int) ≤ (k : Int) := by omega
      obtain ⟨b, off, m, a', cap', rfl, hm, hc, hv, hnn⟩ := hR.at k hkl
      have hc' : wr.cell? ⟨b, off + k, none⟩ = some (.slice a' m.length cap') := by rw [hb.cell (World.block_lt_of_cell? w _ hc)]; exact hc
      have hus := upTo_succ ms k m hm
      have hul := hul.out (k + 1)
      rw [hus, List.length_append] at hul
      have HU := show Hid _ from hus
      have hv := hv.below hb
      clear hus hc hm
      obtain ⟨X, HX⟩ : ∃ X, Hid (upTo ms k = X) := ⟨_, rfl⟩
      rw [HX.out] at hO hul bX HU ⊢
      go_wp2_with (at_builtin; refine wpList_append_bytes (by rfl) (.tmp 11) (.tmp 15) (by rfl) w.heap.size _ X (by rfl) hO bX a' m.length cap' m (by rfl) hv hnn (by omega) hb.size ?_; intro a3 cap3 w3 hO3 hg3 hV3)
      go_roundw
      case rel =>
        have hb3 : Below w.heap.size w w3 := hb.grown hg3 hb.size (fun g e => hO.base_le e)
        refine ⟨k + 1, a3, cap3, by omega, by go_num, ?_, ?_, hb3⟩
        · rw [HU.out, List.length_append]
        · rw [HU.out, List.length_append]; exact hO3
      case measure => simp [intOf]; omega
    · have hki : ¬ (k : Int) < (len : Int) := by omega
      have hall : upTo ms k = l := (upTo_all ms k (by have := hR.1; omega)).trans Hl.out
      rw [hall] at hO bX
      rw [hall]
      obtain ⟨a', cap', e, hV⟩ := hO.form bX
      obtain ⟨e1, e2, e3⟩ : a1 = a' ∧ l.length = l.length ∧ c1 = cap' := by simpa using e
      subst e1 e3
      go_wp2_with fail
      go_ret
      exact ⟨_, _, rfl, hO, hV, hO.none, hb⟩
theorem join_any (a : Option Addr) (len cap : Nat) (ms : List (List Int)) (w : World) (hR : RowsV w a len cap ms) (hn : ms.flatten.length ≤ 1000000) :
    Calls Tryd.prog 54 #[.slice a len cap] w fun e w' => ∃ a' cap', e = .returned (.slice a' ms.flatten.length cap') ∧ BytesV w' a' ms.flatten.length cap' ms.flatten ∧ (a' = none → cap' = 0) ∧ Below w.heap.size w w' :=
  (join_own a len cap ms w hR hn).mono fun _ _ ⟨a', cap', h1, _, h2⟩ => ⟨a', cap', h1, h2⟩
end Go.Proofs.YtfkcphbbabaefaaDoor.H
namespace Go.Proofs.YtfkcphbbabaefaaDoor.H
open Go.RowKit
def be16 (n : Int) : List Int := be8 0 ++ be8 n
theorem be16_low (n : Int) (k : Nat) (hk : k < 8) : (be16 n).getD k 0 = 0 := by
  rcases k with _ | _ | _ | _ | _ | _ | _ | _ | k
  all_goals first | rfl | omega
theorem be16_high (n : Int) (k : Nat) (hk : 8 ≤ k) (hk' : k < 16) : (be16 n).getD k 0 = n / 2 ^ (8 * (15 - k)) % 256 := by
  obtain ⟨j, rfl⟩ : ∃ j, k = 8 + j := ⟨k - 8, by omega⟩
  rcases j with _ | _ | _ | _ | _ | _ | _ | _ | j
  all_goals first | rfl | omega
theorem be16_length (n : Int) : (be16 n).length = 16 := rfl
theorem be16_bys (n : Int) : Bys (be16 n) := fun x hx => by
  rcases List.mem_append.1 hx with h | h
  · exact be8_bys _ x h
  · exact be8_bys _ x h
theorem be16_take (n : Int) (k : Nat) (hk : k < 16) : (be16 n).take (k + 1) = (be16 n).take k ++ [(be16 n).getD k 0] := by
  have h : k < (be16 n).length := hk
  rw [List.take_succ_eq_append_getElem h]
  simp [List.getD, h]
theorem bytesV_one (w : World) (x : Int) (h : 0 ≤ x ∧ x < 256) : BytesV (w.alloc (.cells #[.int .u8 x] 5)) (some ⟨w.heap.size, 0, none⟩) 1 1 [x] :=
  ⟨rfl, Nat.le_refl _, by decide, fun y hy => by simp at hy; omega, fun _ => ⟨_, _, rfl, fun j v hv => by
    rw [Nat.zero_add, cell_of_row _ w.heap.size j #[.int .u8 x] 5 (0, 0) (heap_alloc_last w _)]
    simpa [u8s] using hv⟩⟩
set_option maxRecDepth 100000 in
set_option maxHeartbeats 2000000 in
theorem padded_any (a : Option Addr) (cap : Nat) (m : List Int) (w : World) (hm : BytesV w a m.length cap m) (hcap : a = none → cap = 0) (hl : m.length ≤ 1000000) :
    Calls Tryd.prog 80 #[.slice a m.length cap, .int .i64 128, .int .i64 16] w fun e w' => ∃ a' cap', e = .returned (.slice a' (m ++ padL m.length).length cap') ∧ BytesV w' a' (m ++ padL m.length).length cap' (m ++ padL m.length) ∧ Below w.heap.size w w' ∧ (∀ x, a' = some x → w.heap.size ≤ x.block) := by
  have bm : Bys m := hm.2.2.2.1
  go_enter Tryd.func80, Tryd.ntmps80
  go_upto_region 3 with (first
    | (at_builtin; refine wpList_append_bytes (by rfl) (.tmp 10) (.tmp 11) (by rfl) w.heap.size (.slice none 0 0) [] (by rfl) (ownBytes_nil _ _) (fun x hx => by simp at hx) a m.length cap m (by rfl) hm hcap (by simp; omega) (Nat.le_refl _) ?_; intro a1 cap1 w1 hO1 hg1 hV1; simp only [List.length_nil, Nat.zero_add, List.nil_append] at hO1 hV1)
    | (at_builtin; refine wpList_append_bytes (by rfl) (.tmp 12) (.tmp 13) (by rfl) w.heap.size _ _ (by rfl) (hO1.below (alloc_below _ _)) bm _ 1 1 [128] (by rfl) (bytesV_one _ 128 (by decide)) (fun h => by cases h) (by simp; omega) (by have := hg1.size; simp; omega) ?_; intro a2 cap2 w2 hO2 hg2 hV2))
  have hb2 : Below w.heap.size w w2 := by
    have h1 : Below w.heap.size w w1 := (Below.refl _ _).grown hg1 (Nat.le_refl _) (fun k e => by simp [Value.ownBlock] at e)
    have h2 := h1.alloc h1.size (.cells #[.int .u8 128] 5)
    exact h2.grown hg2 h2.size (fun g e => hO1.base_le e)
  clear hO1 hV1 hg1 hg2 hV2
  obtain ⟨z, Hz⟩ : ∃ z, Hid (z = noughts m.length) := ⟨_, rfl⟩
  have hz64 : z ≤ 127 := by rw [Hz.out]; unfold noughts; omega
  have hzw : (m.length + 1 + z + 16) % 128 = 0 := by rw [Hz.out]; unfold noughts; omega
  have hzl : ∀ j, j < z → (m.length + 1 + j + 16) % 128 ≠ 0 := fun j hj => by rw [Hz.out] at hj; unfold noughts at hj; omega
  have HZL := show Hid _ from hzl
  clear hzl
  go_loopw [7] (fun v wr => ∃ (j : Nat) (a' : Option Addr) (cap' : Nat), j ≤ z ∧ v = .slice a' (m.length + 1 + j) cap' ∧ OwnBytes wr w.heap.size (.slice a' (m.length + 1 + j) cap') (m ++ (128 :: List.replicate j 0)) ∧ Below w.heap.size w wr) (fun v _ => m.length + 200 - sliceLen v)
  case atStart => exact ⟨0, a2, cap2, Nat.zero_le _, rfl, hO2, hb2⟩
  case round =>
    clear hO2 hb2
    obtain ⟨j, a', cap', hj, rfl, hO, hb⟩ := hrel
    obtain ⟨q, Hq⟩ : ∃ q, Hid (q = m.length + 1 + j) := ⟨_, rfl⟩
    have hql : (q : Int) ≤ 2000000 := by rw [Hq.out]; omega
    have hqm : q ≤ m.length + 128 := by rw [Hq.out]; omega
    have hln : (m ++ (128 :: List.replicate j (0 : Int))).length = q := by rw [Hq.out]; simp; omega
    have bO : Bys (m ++ (128 :: List.replicate j (0 : Int))) := fun x hx => by
      rcases List.mem_append.1 hx with h | h
      · exact bm x h
      · simp at h; rcases h with rfl | ⟨_, rfl⟩ <;> omega
    rw [← Hq.out]
    rw [← Hq.out] at hO
    by_cases hlt : j < z
    · have hne : (((q : Int) + 16) % 128 == 0) = false := by
        have := HZL.out j hlt
        rw [← Hq.out] at this
        rw [beq_eq_false_iff_ne]; omega
      have hne' : (((q : Int) + 16) % 128 != 0) = true := by rw [bne, hne]; rfl
      go_wp2_with (at_builtin; refine wpList_append_bytes (by rfl) (.tmp 22) (.tmp 23) (by rfl) w.heap.size _ _ (by rfl) (hO.below (alloc_below _ _)) bO _ 1 1 [0] (by rfl) (bytesV_one _ 0 (by decide)) (fun h => by cases h) (by rw [hln]; simp; omega) (by have := hb.size; simp; omega) ?_; intro a3 cap3 w3 hO3 hg3 hV3)
      go_roundw
      case rel =>
        have hb3 : Below w.heap.size w w3 := by
          have h2 := hb.alloc hb.size (.cells #[.int .u8 0] 5)
          exact h2.grown hg3 h2.size (fun g e => hO.base_le e)
        have e1 : q + 1 = m.length + 1 + (j + 1) := by rw [Hq.out]; omega
        rw [hln] at hO3
        refine ⟨j + 1, a3, cap3, by omega, by rw [e1], ?_, hb3⟩
        rw [← e1, List.replicate_succ', ← List.cons_append, ← List.append_assoc]; exact hO3
      case measure => simp [sliceLen]; omega
    · have hjz : j = z := by omega
      have hne : (((q : Int) + 16) % 128 == 0) = true := by
        rw [beq_iff_eq, Hq.out]; omega
      have hne' : (((q : Int) + 16) % 128 != 0) = false := by rw [bne, hne]; rfl
      have HJ := show Hid _ from hjz
      clear hjz
      go_wp2_with fail
      obtain ⟨X, HX⟩ : ∃ X, Hid (X = m ++ (128 :: List.replicate j (0 : Int))) := ⟨_, rfl⟩
      rw [← HX.out] at hO hln bO
      clear hne hne'
      go_loopw [7, 9] (fun v i wr => ∃ (k : Nat) (a' : Option Addr) (cap' : Nat), k ≤ 16 ∧ i = .int .i64 (15 - (k : Int)) ∧ v = .slice a' (q + k) cap' ∧ OwnBytes wr w.heap.size (.slice a' (q + k) cap') (X ++ (be16 ((m.length : Int) * 8)).take k) ∧ Below w.heap.size w wr) (fun _ i _ => (intOf i + 1).toNat)
      case atStart => exact ⟨0, a', cap', by omega, rfl, rfl, by rw [List.take_zero, List.append_nil]; exact hO, hb⟩
      case round =>
        clear hO hb
        obtain ⟨k, a', cap', hk, rfl, rfl, hO, hb⟩ := hrel
        have hbl := be16_length ((m.length : Int) * 8)
        have hXk : (X ++ (be16 ((m.length : Int) * 8)).take k).length = q + k := by rw [List.length_append, hln, List.length_take, hbl, Nat.min_eq_left hk]
        have bX : Bys (X ++ (be16 ((m.length : Int) * 8)).take k) := fun x hx => by
          rcases List.mem_append.1 hx with h | h
          · exact bO x h
          · exact be16_bys _ x (List.mem_of_mem_take h)
        by_cases hlt : k < 16
        · obtain ⟨i, Hi, hi7⟩ : ∃ i : Nat, Hid (i + k = 15) ∧ i ≤ 15 := ⟨15 - k, show 15 - k + k = 15 by omega, by omega⟩
          have ei : (15 : Int) - (k : Int) = (i : Int) := by have := Hi.out; omega
          rw [ei]
          have EI := show Hid _ from ei
          clear ei
          have hi0 : (0 : Int) ≤ (i : Int) := by omega
          have hi7' : (i : Int) ≤ 15 := by omega
          by_cases hi8 : 8 ≤ i
          · have hi8' : (8 : Int) ≤ (i : Int) := by omega
            have HAT := show Hid _ from be16_low ((m.length : Int) * 8) k (by have := Hi.out; omega)
            go_wp2_with (at_builtin; refine wpList_append_bytes (by rfl) (.tmp 37) (.tmp 38) (by rfl) w.heap.size _ _ (by rfl) (hO.below (alloc_below _ _)) bX _ 1 1 [0] (by rfl) (bytesV_one _ 0 (by decide)) (fun h => by cases h) (by rw [hXk]; simp; omega) (by have := hb.size; simp; omega) ?_; intro a3 cap3 w3 hO3 hg3 hV3)
            go_roundw
            case rel =>
              have hb3 : Below w.heap.size w w3 := by
                have h2 := hb.alloc hb.size (.cells #[.int .u8 0] 5)
                exact h2.grown hg3 h2.size (fun g e => hO.base_le e)
              rw [hXk] at hO3
              refine ⟨k + 1, a3, cap3, by omega, by have := Hi.out; congr 1; omega, by rw [Nat.add_assoc], ?_, hb3⟩
              rw [← Nat.add_assoc, be16_take _ _ hlt, HAT.out, ← List.append_assoc]; exact hO3
            case measure => simp [intOf]
          · have hi8' : ¬ (8 : Int) ≤ (i : Int) := by omega
            have hat : (m.length : Int) * 8 / 2 ^ (8 * i) % 256 = (be16 ((m.length : Int) * 8)).getD k 0 := by
              rw [be16_high _ k (by have := Hi.out; omega) hlt, show 15 - k = i from by have := Hi.out; omega]
            have HAT := show Hid _ from hat
            clear hat
            go_upto_region 11 with fail
            have hxb : 0 ≤ (m.length : Int) * 8 / 2 ^ (8 * i) % 256 ∧ (m.length : Int) * 8 / 2 ^ (8 * i) % 256 < 256 := by generalize (m.length : Int) * 8 / 2 ^ (8 * i) = y; omega
            have HXB := show Hid _ from hxb
            clear hxb
            go_wp2_with (at_builtin; refine wpList_append_bytes (by rfl) (.tmp 40) (.tmp 47) (by rfl) w.heap.size _ _ (by rfl) (hO.below (alloc_below _ _)) bX _ 1 1 [(m.length : Int) * 8 / 2 ^ (8 * i) % 256] (by rfl) (bytesV_one _ _ HXB.out) (fun h => by cases h) (by rw [hXk]; simp; omega) (by have := hb.size; simp; omega) ?_; intro a3 cap3 w3 hO3 hg3 hV3)
            go_roundw
            case rel =>
              have hb3 : Below w.heap.size w w3 := by
                have h2 := hb.alloc hb.size (.cells #[.int .u8 ((m.length : Int) * 8 / 2 ^ (8 * i) % 256)] 5)
                exact h2.grown hg3 h2.size (fun g e => hO.base_le e)
              rw [hXk, HAT.out] at hO3
              refine ⟨k + 1, a3, cap3, by omega, by have := Hi.out; congr 1; omega, by rw [Nat.add_assoc], ?_, hb3⟩
              rw [← Nat.add_assoc, be16_take _ _ hlt, ← List.append_assoc]; exact hO3
            case measure => simp [intOf]
        · have hk8 : k = 16 := by omega
          subst hk8
          have e8 : X ++ (be16 ((m.length : Int) * 8)).take 16 = m ++ padL m.length := by
            rw [HX.out, HJ.out, Hz.out, List.append_assoc, List.take_of_length_le (l := be16 ((m.length : Int) * 8)) (by rw [hbl]; exact Nat.le_refl _)]
            simp [padL, be16]
          have HE := show Hid _ from e8
          rw [e8] at hO bX hXk
          clear e8
          have hi0 : ¬ (0 : Int) ≤ 15 - ((16 : Nat) : Int) := by omega
          obtain ⟨a9, cap9, hv9, hV9⟩ := hO.form bX
          simp only [Value.slice.injEq] at hv9
          obtain ⟨rfl, _, rfl⟩ := hv9
          have HXK := show Hid _ from hXk
          clear hXk
          go_wp2_with fail
          go_ret
          exact ⟨a', cap', rfl, by rw [← List.length_append]; exact hV9, hb, fun x hx => hO.base_le (by rw [hx]; rfl)⟩
end Go.Proofs.YtfkcphbbabaefaaDoor.H
namespace Go.Proofs.YtfkcphbbabaefaaDoor.H
open Go.RowKit
def kArr : Array Value := (kays.map (Value.int .u64)).toArray
theorem kArr_size : kArr.size = 80 := by rw [kArr, List.size_toArray, List.length_map]; rfl
theorem kArr_at (i : Nat) (h : i < 80) : kArr[i]? = some (.int .u64 (kays.getD i 0)) := by
  have h' : i < kays.length := h
  simp [kArr, h', List.getD]
theorem kArr_one : kArr.all (·.oneCell') = true := all_oneCell_toArray fun v hv => by obtain ⟨x, _, rfl⟩ := List.mem_map.1 hv; rfl
theorem kArr_info : (Tryd.prog.info? 103).map (·.size) = some kArr.size := by rw [info43, kArr_size]
set_option maxHeartbeats 400000 in
theorem rot64_any (x n : Int) (w : World) (h1 : 0 < n) (h2 : n < 64) :
    Calls Tryd.prog 81 #[.int .u64 x, .int .i64 n] w fun e w' => e = .returned (.int .u64 (rotl x (64 - n).toNat)) ∧ w' = w := by
  go_enter Tryd.func81, Tryd.ntmps81
  go_wp2_with fail
  refine (rot_any x (-n) w (by omega) (by omega)).mono ?_
  rintro e w' ⟨rfl, rfl⟩
  go_wp2
  go_ret
  refine ⟨ret_int ?_, rfl⟩
  rw [show 64 + -n = 64 - n from by omega]
set_option maxRecDepth 100000 in
set_option maxHeartbeats 1000000 in
theorem k512_any (w : World) : Calls Tryd.prog 79 #[] w fun e w' => e = .returned (.agg kArr) ∧ Below w.heap.size w w' := by
  have hz := (zero_of_info zero43).1
  go_enter Tryd.func79, Tryd.ntmps79
  go_upto_region 1 with fail
  go_wp2_with (first | refine wpList_store_new (by rfl) 103 (.tmp 0) (.tmp 1) (by rfl) _ kArr (by rfl) (by rfl) kArr_info (by rw [kArr_size]; rfl) kArr_one (by rfl) ?_ | refine wpList_value (by rfl) (.agg kArr) (by kernel_rfl) ?_)
  exact bodyPost_ret (results_own Tryd.results79 _ _ w.heap.size kArr _ rfl (own_new _ _ _) Tryd.underlying103 rfl kArr_info) rfl ⟨rfl, (Below.refl _ _).alloc (Nat.le_refl _) _⟩
end Go.Proofs.YtfkcphbbabaefaaDoor.H
