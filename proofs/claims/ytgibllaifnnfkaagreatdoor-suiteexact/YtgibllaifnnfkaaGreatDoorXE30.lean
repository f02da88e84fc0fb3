/- Of the texts SK1, HVA: what the card of this claim reaches. -/
import Derived.Test.YtgibllaifnnfkaaGreatDoorXE26
import Derived.Test.YtgibllaifnnfkaaGreatDoorXE29
import Derived.Test.YtgibllaifnnfkaaGreatDoorXE23
namespace Go.Proofs.YtgibllaifnnfkaaGreatDoor
open Go Go.RowKit
theorem low_and : ∀ x : Fin 256, bits .and .u8 (x.val : Int) 248 = ((x.val / 8 * 8 : Nat) : Int) := by decide +kernel
theorem top_and : ∀ x : Fin 256, bits .or .u8 (bits .and .u8 (x.val : Int) 127) 64 = ((x.val % 64 + 64 : Nat) : Int) := by decide +kernel
set_option maxRecDepth 100000 in
set_option maxHeartbeats 1000000 in
theorem key_at {a c : Nat} (Hc : Hid (clamp a = c)) (w : World) : Calls Tryz.prog 79 #[.agg (B32 (bdig a))] w fun x w' => x = .returned (.agg (numA c)) ∧ Below w.heap.size w w' := by
  have lc : Hid (c < R256) := by show _ < _; rw [← Hc.out]; exact clamp_lt _
  obtain ⟨x0, Hx0⟩ : ∃ x, Hid (bdig a 0 = x) := ⟨_, rfl⟩
  obtain ⟨x31, Hx31⟩ : ∃ x, Hid (bdig a 31 = x) := ⟨_, rfl⟩
  have lx0 : x0 < 256 := by rw [← Hx0.out]; exact bdig_lt _ _
  have lx31 : x31 < 256 := by rw [← Hx31.out]; exact bdig_lt _ _
  obtain ⟨y0, Hy0⟩ : ∃ y, Hid (x0 / 8 * 8 = y) := ⟨_, rfl⟩
  obtain ⟨y2, Hy2⟩ : ∃ y, Hid (x31 % 64 + 64 = y) := ⟨_, rfl⟩
  have hb0 : Hid (bits .and .u8 (x0 : Int) 248 = (y0 : Int)) := by show _ = _; rw [← Hy0.out]; exact low_and ⟨x0, lx0⟩
  have hb2 : Hid (bits .or .u8 (bits .and .u8 (x31 : Int) 127) 64 = (y2 : Int)) := by show _ = _; rw [← Hy2.out]; exact top_and ⟨x31, lx31⟩
  replace lx0 := show Hid _ from lx0
  replace lx31 := show Hid _ from lx31
  go_enter Tryz.func79, Tryz.ntmps79
  go_upto_region 1 with fail
  have hK := ((Kp.nil w).alloc (B32 (bdig a)) 22).alloc (numA 0) 54
  rw [World.size_alloc] at hK
  rw [show (#[.int .u64 0, .int .u64 0, .int .u64 0, .int .u64 0] : Array Value) = numA 0 from rfl]
  generalize (w.alloc (.cells (B32 (bdig a)) 22)).alloc (.cells (numA 0) 54) = W at *
  obtain ⟨bA, HbA⟩ : ∃ b, Hid (w.heap.size = b) := ⟨_, rfl⟩
  obtain ⟨bR, HbR⟩ : ∃ b, Hid (bA + 1 = b) := ⟨_, rfl⟩
  have le_bA : Hid (w.heap.size ≤ bA) := by show _ ≤ _; have := HbA.out; omega
  have le_bR : Hid (w.heap.size ≤ bR) := by show _ ≤ _; have := HbA.out; have := HbR.out; omega
  have ne_bA_bR : Hid (bA ≠ bR) := by show _ ≠ _; have := HbR.out; omega
  rw [HbA.out, HbR.out] at hK ⊢
  have hK : Kp [(bA, B32 (bdig a), 22), (bR, numA 0, 54)] w W := ((hK.none.cons (hK.at bR (numA 0) 54 (.head _))).cons (hK.at bA (B32 (bdig a)) 22 (.tail _ (.head _))))
  have cq : W.cell? ⟨bA, 0, none⟩ = some (.int .u8 (x0 : Int)) := by have := (hK.at bA (B32 (bdig a)) 22 (.head _)).cell (B32_at (bdig a) 0 (by decide)); rw [Hx0.out] at this; exact this
  have fq := (hK.at bA (B32 (bdig a)) 22 (.head _)).frozen 0
  go_upto_region 2 with fail
  rw [hb0.out]
  have hK := Kp.setCell (i := 0) (v := .int .u8 (y0 : Int)) hK (by simp only [List.forall_mem_cons, List.not_mem_nil, false_implies, implies_true, and_true]; exact (Ne.symm ne_bA_bR.out)) le_bA.out
  rw [B32_set (bdig a) 0 y0 (by decide)] at hK
  generalize W.setCell ⟨bA, 0, none⟩ (.int .u8 (y0 : Int)) = V1 at *
  clear cq fq
  have cq : V1.cell? ⟨bA, 31, none⟩ = some (.int .u8 (x31 : Int)) := by have := (hK.at bA (B32 (upd (bdig a) 0 y0)) 22 (.head _)).cell (B32_at (upd (bdig a) 0 y0) 31 (by decide)); rw [upd_other _ _ _ _ (by decide), Hx31.out] at this; exact this
  have fq := (hK.at bA (B32 (upd (bdig a) 0 y0)) 22 (.head _)).frozen 31
  go_upto_region 3 with fail
  rw [hb2.out]
  have hK := Kp.setCell (i := 31) (v := .int .u8 (y2 : Int)) hK (by simp only [List.forall_mem_cons, List.not_mem_nil, false_implies, implies_true, and_true]; exact (Ne.symm ne_bA_bR.out)) le_bA.out
  rw [B32_set (upd (bdig a) 0 y0) 31 y2 (by decide)] at hK
  generalize V1.setCell ⟨bA, 31, none⟩ (.int .u8 (y2 : Int)) = V2 at *
  clear cq fq
  rw [show B32 (upd (upd (bdig a) 0 y0) 31 y2) = B32 (bdig c) by rw [← Hy0.out, ← Hy2.out, ← Hx0.out, ← Hx31.out, B32_clamp, Hc.out]] at hK
  go_wp2_with (refine wpList_load_own (by rfl) 22 (.tmp 1) (by rfl) bA (by rfl) (B32 (bdig c)) _ (hK.at bA (B32 (bdig c)) 22 (.head _)) Tryz.underlying22 (by rfl) (B32_info _) ?_)
  refine (of_any c lc.out _).mono ?_
  rintro e V3 ⟨rfl, bw⟩
  have hK := hK.below bw
  clear bw
  go_wp2_with (refine wpList_store_own (op := { dst := none, op := _, type := _, pos := _, after := _, guard := _ }) rfl 54 (.tmp 2) (.tmp 13) rfl bR 0 (numA c) (by rfl) (by rfl) (hK.at bR (numA 0) 54 (.tail _ (.head _))) (Nat.le_refl _) (numA_info _) (numA_one _) (by rfl) ?_)
  exact bodyPost_ret (results_own Tryz.results79 _ _ bR (numA c) _ (by rfl) (own_setCells (hK.at bR (numA 0) 54 (.tail _ (.head _))) (numA_sizes _ _)) Tryz.underlying54 rfl (numA_info _)) rfl ⟨rfl, Below.setCells _ _ _ _ le_bR.out hK.2⟩
end Go.Proofs.YtgibllaifnnfkaaGreatDoor
namespace Go.Proofs.YtgibllaifnnfkaaGreatDoor.H
open Go.RowKit
def be16 (n : Int) : List Int := be8 0 ++ be8 n
theorem be16_low (n : Int) (k : Nat) (hk : k < 8) : (be16 n).getD k 0 = 0 := by
  rcases k with _ | _ | _ | _ | _ | _ | _ | _ | k
  all_goals first | rfl | omega
theorem be16_high (n : Int) (k : Nat) (hk : 8 ≤ k) (hk' : k < 16) : (be16 n).getD k 0 = n / 2 ^ (8 * (15 - k)) % 256 := by
  obtain ⟨j, rfl⟩ : ∃ j, k = 8 + j := ⟨k - 8, by omega⟩
  rcases j with _ | _ | _ | _ | _ | _ | _ | _ | j
  all_goals first | rfl | omega
theorem be16_length (n : Int) : (be16 n).length = 16 := rfl
theorem be16_bys (n : Int) : Bys (be16 n) := fun x hx => by
  rcases List.mem_append.1 hx with h | h
  · exact be8_bys _ x h
  · exact be8_bys _ x h
theorem be16_take (n : Int) (k : Nat) (hk : k < 16) : (be16 n).take (k + 1) = (be16 n).take k ++ [(be16 n).getD k 0] := by
  have h : k < (be16 n).length := hk
  rw [List.take_succ_eq_append_getElem h]
  simp [List.getD, h]
theorem bytesV_one (w : World) (x : Int) (h : 0 ≤ x ∧ x < 256) : BytesV (w.alloc (.cells #[.int .u8 x] 5)) (some ⟨w.heap.size, 0, none⟩) 1 1 [x] :=
  ⟨rfl, Nat.le_refl _, by decide, fun y hy => by simp at hy; omega, fun _ => ⟨_, _, rfl, fun j v hv => by
    rw [Nat.zero_add, cell_of_row _ w.heap.size j #[.int .u8 x] 5 (0, 0) (heap_alloc_last w _)]
    simpa [u8s] using hv⟩⟩
set_option maxRecDepth 100000 in
set_option maxHeartbeats 2000000 in
theorem padded_any (a : Option Addr) (cap : Nat) (m : List Int) (w : World) (hm : BytesV w a m.length cap m) (hcap : a = none → cap = 0) (hl : m.length ≤ 1000000) :
    Calls Tryz.prog 43 #[.slice a m.length cap, .int .i64 128, .int .i64 16] w fun e w' => ∃ a' cap', e = .returned (.slice a' (m ++ padL m.length).length cap') ∧ BytesV w' a' (m ++ padL m.length).length cap' (m ++ padL m.length) ∧ Below w.heap.size w w' ∧ (∀ x, a' = some x → w.heap.size ≤ x.block) := by
  have bm : Bys m := hm.2.2.2.1
  go_enter Tryz.func43, Tryz.ntmps43
  go_upto_region 3 with (first
    | (at_builtin; refine wpList_append_bytes (by rfl) (.tmp 10) (.tmp 11) (by rfl) w.heap.size (.slice none 0 0) [] (by rfl) (ownBytes_nil _ _) (fun x hx => by simp at hx) a m.length cap m (by rfl) hm hcap (by simp; omega) (Nat.le_refl _) ?_; intro a1 cap1 w1 hO1 hg1 hV1; simp only [List.length_nil, Nat.zero_add, List.nil_append] at hO1 hV1)
    | (at_builtin; refine wpList_append_bytes (by rfl) (.tmp 12) (.tmp 13) (by rfl) w.heap.size _ _ (by rfl) (hO1.below (alloc_below _ _)) bm _ 1 1 [128] (by rfl) (bytesV_one _ 128 (by decide)) (fun h => by cases h) (by simp; omega) (by have := hg1.size; simp; omega) ?_; intro a2 cap2 w2 hO2 hg2 hV2))
  have hb2 : Below w.heap.size w w2 := by
    have h1 : Below w.heap.size w w1 := (Below.refl _ _).grown hg1 (Nat.le_refl _) (fun k e => by simp [Value.ownBlock] at e)
    have h2 := h1.alloc h1.size (.cells #[.int .u8 128] 5)
    exact h2.grown hg2 h2.size (fun g e => hO1.base_le e)
  clear hO1 hV1 hg1 hg2 hV2
  obtain ⟨z, Hz⟩ : ∃ z, Hid (z = noughts m.length) := ⟨_, rfl⟩
  have hz64 : z ≤ 127 := by rw [Hz.out]; unfold noughts; omega
  have hzw : (m.length + 1 + z + 16) % 128 = 0 := by rw [Hz.out]; unfold noughts; omega
  have hzl : ∀ j, j < z → (m.length + 1 + j + 16) % 128 ≠ 0 := fun j hj => by rw [Hz.out] at hj; unfold noughts at hj; omega
  have HZL := show Hid _ from hzl
  clear hzl
  go_loopw [7] (fun v wr => ∃ (j : Nat) (a' : Option Addr) (cap' : Nat), j ≤ z ∧ v = .slice a' (m.length + 1 + j) cap' ∧ OwnBytes wr w.heap.size (.slice a' (m.length + 1 + j) cap') (m ++ (128 :: List.replicate j 0)) ∧ Below w.heap.size w wr) (fun v _ => m.length + 200 - sliceLen v)
  case atStart => exact ⟨0, a2, cap2, Nat.zero_le _, rfl, hO2, hb2⟩
  case round =>
    clear hO2 hb2
    obtain ⟨j, a', cap', hj, rfl, hO, hb⟩ := hrel
    obtain ⟨q, Hq⟩ : ∃ q, Hid (q = m.length + 1 + j) := ⟨_, rfl⟩
    have hql : (q : Int) ≤ 2000000 := by rw [Hq.out]; omega
    have hqm : q ≤ m.length + 128 := by rw [Hq.out]; omega
    have hln : (m ++ (128 :: List.replicate j (0 : Int))).length = q := by rw [Hq.out]; simp; omega
    have bO : Bys (m ++ (128 :: List.replicate j (0 : Int))) := fun x hx => by
      rcases List.mem_append.1 hx with h | h
      · exact bm x h
      · simp at h; rcases h with rfl | ⟨_, rfl⟩ <;> omega
    rw [← Hq.out]
    rw [← Hq.out] at hO
    by_cases hlt : j < z
    · have hne : (((q : Int) + 16) % 128 == 0) = false := by
        have := HZL.out j hlt
        rw [← Hq.out] at this
        rw [beq_eq_false_iff_ne]; omega
      have hne' : (((q : Int) + 16) % 128 != 0) = true := by rw [bne, hne]; rfl
      go_wp2_with (at_builtin; refine wpList_append_bytes (by rfl) (.tmp 22) (.tmp 23) (by rfl) w.heap.size _ _ (by rfl) (hO.below (alloc_below _ _)) bO _ 1 1 [0] (by rfl) (bytesV_one _ 0 (by decide)) (fun h => by cases h) (by rw [hln]; simp; omega) (by have := hb.size; simp; omega) ?_; intro a3 cap3 w3 hO3 hg3 hV3)
      go_roundw
      case rel =>
        have hb3 : Below w.heap.size w w3 := by
          have h2 := hb.alloc hb.size (.cells #[.int .u8 0] 5)
          exact h2.grown hg3 h2.size (fun g e => hO.base_le e)
        have e1 : q + 1 = m.length + 1 + (j + 1) := by rw [Hq.out]; omega
        rw [hln] at hO3
        refine ⟨j + 1, a3, cap3, by omega, by rw [e1], ?_, hb3⟩
        rw [← e1, List.replicate_succ', ← List.cons_append, ← List.append_assoc]; exact hO3
      case measure => simp [sliceLen]; omega
    · have hjz : j = z := by omega
      have hne : (((q : Int) + 16) % 128 == 0) = true := by
        rw [beq_iff_eq, Hq.out]; omega
      have hne' : (((q : Int) + 16) % 128 != 0) = false := by rw [bne, hne]; rfl
      have HJ := show Hid _ from hjz
      clear hjz
      go_wp2_with fail
      obtain ⟨X, HX⟩ : ∃ X, Hid (X = m ++ (128 :: List.replicate j (0 : Int))) := ⟨_, rfl⟩
      rw [← HX.out] at hO hln bO
      clear hne hne'
      go_loopw [7, 9] (fun v i wr => ∃ (k : Nat) (a' : Option Addr) (cap' : Nat), k ≤ 16 ∧ i = .int .i64 (15 - (k : Int)) ∧ v = .slice a' (q + k) cap' ∧ OwnBytes wr w.heap.size (.slice a' (q + k) cap') (X ++ (be16 ((m.length : Int) * 8)).take k) ∧ Below w.heap.size w wr) (fun _ i _ => (intOf i + 1).toNat)
      case atStart => exact ⟨0, a', cap', by omega, rfl, rfl, by rw [List.take_zero, List.append_nil]; exact hO, hb⟩
      case round =>
        clear hO hb
        obtain ⟨k, a', cap', hk, rfl, rfl, hO, hb⟩ := hrel
        have hbl := be16_length ((m.length : Int) * 8)
        have hXk : (X ++ (be16 ((m.length : Int) * 8)).take k).length = q + k := by rw [List.length_append, hln, List.length_take, hbl, Nat.min_eq_left hk]
        have bX : Bys (X ++ (be16 ((m.length : Int) * 8)).take k) := fun x hx => by
          rcases List.mem_append.1 hx with h | h
          · exact bO x h
          · exact be16_bys _ x (List.mem_of_mem_take h)
        by_cases hlt : k < 16
        · obtain ⟨i, Hi, hi7⟩ : ∃ i : Nat, Hid (i + k = 15) ∧ i ≤ 15 := ⟨15 - k, show 15 - k + k = 15 by omega, by omega⟩
          have ei : (15 : Int) - (k : Int) = (i : Int) := by have := Hi.out; omega
          rw [ei]
          have EI := show Hid _ from ei
          clear ei
          have hi0 : (0 : Int) ≤ (i : Int) := by omega
          have hi7' : (i : Int) ≤ 15 := by omega
          by_cases hi8 : 8 ≤ i
          · have hi8' : (8 : Int) ≤ (i : Int) := by omega
            have HAT := show Hid _ from be16_low ((m.length : Int) * 8) k (by have := Hi.out; omega)
            go_wp2_with (at_builtin; refine wpList_append_bytes (by rfl) (.tmp 37) (.tmp 38) (by rfl) w.heap.size _ _ (by rfl) (hO.below (alloc_below _ _)) bX _ 1 1 [0] (by rfl) (bytesV_one _ 0 (by decide)) (fun h => by cases h) (by rw [hXk]; simp; omega) (by have := hb.size; simp; omega) ?_; intro a3 cap3 w3 hO3 hg3 hV3)
            go_roundw
            case rel =>
              have hb3 : Below w.heap.size w w3 := by
                have h2 := hb.alloc hb.size (.cells #[.int .u8 0] 5)
                exact h2.grown hg3 h2.size (fun g e => hO.base_le e)
              rw [hXk] at hO3
              refine ⟨k + 1, a3, cap3, by omega, by have := Hi.out; congr 1; omega, by rw [Nat.add_assoc], ?_, hb3⟩
              rw [← Nat.add_assoc, be16_take _ _ hlt, HAT.out, ← List.append_assoc]; exact hO3
            case measure => simp [intOf]
          · have hi8' : ¬ (8 : Int) ≤ (i : Int) := by omega
            have hat : (m.length : Int) * 8 / 2 ^ (8 * i) % 256 = (be16 ((m.length : Int) * 8)).getD k 0 := by
              rw [be16_high _ k (by have := Hi.out; omega) hlt, show 15 - k = i from by have := Hi.out; omega]
            have HAT := show Hid _ from hat
            clear hat
            go_upto_region 11 with fail
            have hxb : 0 ≤ (m.length : Int) * 8 / 2 ^ (8 * i) % 256 ∧ (m.length : Int) * 8 / 2 ^ (8 * i) % 256 < 256 := by generalize (m.length : Int) * 8 / 2 ^ (8 * i) = y; omega
            have HXB := show Hid _ from hxb
            clear hxb
            go_wp2_with (at_builtin; refine wpList_append_bytes (by rfl) (.tmp 40) (.tmp 47) (by rfl) w.heap.size _ _ (by rfl) (hO.below (alloc_below _ _)) bX _ 1 1 [(m.length : Int) * 8 / 2 ^ (8 * i) % 256] (by rfl) (bytesV_one _ _ HXB.out) (fun h => by cases h) (by rw [hXk]; simp; omega) (by have := hb.size; simp; omega) ?_; intro a3 cap3 w3 hO3 hg3 hV3)
            go_roundw
            case rel =>
              have hb3 : Below w.heap.size w w3 := by
                have h2 := hb.alloc hb.size (.cells #[.int .u8 ((m.length : Int) * 8 / 2 ^ (8 * i) % 256)] 5)
                exact h2.grown hg3 h2.size (fun g e => hO.base_le e)
              rw [hXk, HAT.out] at hO3
              refine ⟨k + 1, a3, cap3, by omega, by have := Hi.out; congr 1; omega, by rw [Nat.add_assoc], ?_, hb3⟩
              rw [← Nat.add_assoc, be16_take _ _ hlt, ← List.append_assoc]; exact hO3
            case measure => simp [intOf]
        · have hk8 : k = 16 := by omega
          subst hk8
          have e8 : X ++ (be16 ((m.length : Int) * 8)).take 16 = m ++ padL m.length := by
            rw [HX.out, HJ.out, Hz.out, List.append_assoc, List.take_of_length_le (l := be16 ((m.length : Int) * 8)) (by rw [hbl]; exact Nat.le_refl _)]
            simp [padL, be16]
          have HE := show Hid _ from e8
          rw [e8] at hO bX hXk
          clear e8
          have hi0 : ¬ (0 : Int) ≤ 15 - ((16 : Nat) : Int) := by omega
          obtain ⟨a9, cap9, hv9, hV9⟩ := hO.form bX
          simp only [Value.slice.injEq] at hv9
          obtain ⟨rfl, _, rfl⟩ := hv9
          have HXK := show Hid _ from hXk
          clear hXk
          go_wp2_with fail
          go_ret
          exact ⟨a', cap', rfl, by rw [← List.length_append]; exact hV9, hb, fun x hx => hO.base_le (by rw [hx]; rfl)⟩
end Go.Proofs.YtgibllaifnnfkaaGreatDoor.H
namespace Go.Proofs.YtgibllaifnnfkaaGreatDoor.H
open Go.RowKit
def kArr : Array Value := (kays.map (Value.int .u64)).toArray
theorem kArr_size : kArr.size = 80 := by rw [kArr, List.size_toArray, List.length_map]; rfl
theorem kArr_at (i : Nat) (h : i < 80) : kArr[i]? = some (.int .u64 (kays.getD i 0)) := by
  have h' : i < kays.length := h
  simp [kArr, h', List.getD]
theorem kArr_one : kArr.all (·.oneCell') = true := all_oneCell_toArray fun v hv => by obtain ⟨x, _, rfl⟩ := List.mem_map.1 hv; rfl
theorem kArr_info : (Tryz.prog.info? 109).map (·.size) = some kArr.size := by rw [info43, kArr_size]
set_option maxHeartbeats 400000 in
theorem rot64_any (x n : Int) (w : World) (h1 : 0 < n) (h2 : n < 64) :
    Calls Tryz.prog 82 #[.int .u64 x, .int .i64 n] w fun e w' => e = .returned (.int .u64 (rotl x (64 - n).toNat)) ∧ w' = w := by
  go_enter Tryz.func82, Tryz.ntmps82
  go_wp2_with fail
  refine (rot_any x (-n) w (by omega) (by omega)).mono ?_
  rintro e w' ⟨rfl, rfl⟩
  go_wp2
  go_ret
  refine ⟨ret_int ?_, rfl⟩
  rw [show 64 + -n = 64 - n from by omega]
set_option maxRecDepth 100000 in
set_option maxHeartbeats 1000000 in
theorem k512_any (w : World) : Calls Tryz.prog 81 #[] w fun e w' => e = .returned (.agg kArr) ∧ Below w.heap.size w w' := by
  have hz := (zero_of_info zero43).1
  go_enter Tryz.func81, Tryz.ntmps81
  go_upto_region 1 with fail
  go_wp2_with (first | refine wpList_store_new (by rfl) 109 (.tmp 0) (.tmp 1) (by rfl) _ kArr (by rfl) (by rfl) kArr_info (by rw [kArr_size]; rfl) kArr_one (by rfl) ?_ | refine wpList_value (by rfl) (.agg kArr) (by kernel_rfl) ?_)
  exact bodyPost_ret (results_own Tryz.results81 _ _ w.heap.size kArr _ rfl (own_new _ _ _) Tryz.underlying109 rfl kArr_info) rfl ⟨rfl, (Below.refl _ _).alloc (Nat.le_refl _) _⟩
end Go.Proofs.YtgibllaifnnfkaaGreatDoor.H
