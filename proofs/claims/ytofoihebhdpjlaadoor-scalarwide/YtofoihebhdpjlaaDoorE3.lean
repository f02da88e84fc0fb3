/- The walks of the page's sums and differences of whole numbers. -/
import Derived.Test.YtofoihebhdpjlaaDoorE3I
import Derived.Test.YtofoihebhdpjlaaDoorE1
namespace Go.Proofs.YtofoihebhdpjlaaDoor
open Go.RowKit
theorem infoA8 : (Tryd.prog.info? 46).map (·.size) = some 8 := by kernel_rfl

set_option maxRecDepth 100000 in
set_option maxHeartbeats 4000000 in
theorem add_dig (f g : Nat → Nat) (hf : ∀ i, i < 4 → f i < 18446744073709551616) (hg : ∀ i, i < 4 → g i < 18446744073709551616) (w : World) :
    Calls Tryd.prog 31 #[.agg (A4 f), .agg (A4 g)] w fun e w' => (∃ (h : Nat → Nat) (c : Nat), e = .returned (.tuple #[.agg (A4 h), .int .u64 (c : Int)]) ∧ (∀ i, i < 4 → h i < 18446744073709551616) ∧ c ≤ 1 ∧ vl f 4 + vl g 4 = vl h 4 + 18446744073709551616 ^ 4 * c) ∧ Below w.heap.size w w' := by
  have hz := (zero_of_info zeroNum).1
  go_enter Tryd.func31, Tryd.ntmps31
  go_wp2_with fail
  obtain ⟨oA, oB, oR, oO, hbW⟩ := four_blocks w (A4 f) (A4 g) (A4 fun _ => 0) (A4 fun _ => 0) 36
  have hAB : w.heap.size ≠ w.heap.size + 1 + 1 + 1 := by omega
  have hBB : w.heap.size + 1 ≠ w.heap.size + 1 + 1 + 1 := by omega
  have hRB : w.heap.size + 1 + 1 ≠ w.heap.size + 1 + 1 + 1 := by omega
  have hlo : w.heap.size ≤ w.heap.size + 1 + 1 + 1 := by omega
  have hlr : w.heap.size ≤ w.heap.size + 1 + 1 := by omega
  generalize ((((w.alloc (Obj.cells (A4 f) 36)).alloc (Obj.cells (A4 g) 36)).alloc (Obj.cells (A4 fun _ => 0) 36)).alloc (Obj.cells (A4 fun _ => 0) 36)) = W at *
  generalize w.heap.size + 1 + 1 + 1 = bO at *
  generalize w.heap.size + 1 + 1 = bR at *
  generalize w.heap.size + 1 = bB at *
  obtain ⟨bA, HA⟩ : ∃ bA, Hid (w.heap.size = bA) := ⟨_, rfl⟩
  rw [HA.out] at oA hAB hlo hlr hbW ⊢
  go_loopw [8, 6] (fun i cc wr => ∃ (k c : Nat) (h : Nat → Nat), k ≤ 4 ∧ i = .int .i64 (k : Int) ∧ cc = .int .u64 (c : Int) ∧ c ≤ 1 ∧ (∀ i, i < 4 → h i < 18446744073709551616) ∧ Own wr bA (A4 f) 36 ∧ Own wr bB (A4 g) 36 ∧ Own wr bR (A4 fun _ => 0) 36 ∧ Own wr bO (A4 h) 36 ∧ Below bA w wr ∧ Hid (vl f k + vl g k = vl h k + 18446744073709551616 ^ k * c)) (fun i _ _ => 4 - (intOf i).toNat)
  case atStart => exact ⟨0, 0, fun _ => 0, by omega, rfl, rfl, by omega, fun _ _ => by show 0 < 18446744073709551616; decide, oA, oB, oR, oO, hbW, by show _ = _; simp [vl]⟩
  case round =>
    obtain ⟨k, c, h, hk, rfl, rfl, hc, hh, pA, pB, pR, pO, hb, He⟩ := hrel
    have hk0 : (0 : Int) ≤ (k : Int) := by omega
    by_cases hlt : k < 4
    · have hki : (k : Int) < 4 := by omega
      obtain ⟨s, c', hrun, hs, hc', hes⟩ := add64_any (f k) (g k) c (hf k hlt) (hg k hlt) hc
      have Hes := show Hid _ from hes
      have cA := pA.cell (A4_at f k hlt)
      have cB := pB.cell (A4_at g k hlt)
      have cO := pO.cell (A4_at h k hlt)
      have fO := pO.frozen k
      have Hst := show Hid _ from vl_add_step He.out Hes.out
      clear hes
      generalize f k = x at cA hrun
      generalize g k = y at cB hrun
      go_wp2_with fail
      go_region_with (simp only [hrun])
      all_goals go_wp2_with fail
      all_goals (
        refine ⟨⟨k + 1, c', upd h k s, by omega, by go_num, rfl, hc', fun i hi => ?_, pA.setCell_other (Ne.symm hAB) _, pB.setCell_other (Ne.symm hBB) _, pR.setCell_other (Ne.symm hRB) _, ?_, (hb.setCell hlo _).trans ((Below.refl _ _).drew), Hst.out⟩, by simp [intOf]; omega⟩
        · by_cases e : i = k
          · subst e; rw [upd_same]; exact hs
          · rw [upd_other h k s i e]; exact hh i hi
        · have := pO.setCell k (.int .u64 (s : Int))
          rw [A4_set h k s hlt] at this
          exact this)
    · have hki : ¬ (k : Int) < 4 := by omega
      have hk4 : k = 4 := by omega
      have He' := He.out
      rw [hk4] at He'
      have HE := show Hid _ from He'
      clear He' hk4
      go_upto_region 7 with fail
      go_wp2_with (first
        | refine wpList_load_own (by rfl) 36 (.tmp 7) (by rfl) bO (by rfl) (A4 h) _ pO Tryd.underlying36 (by rfl) (by rw [infoNum]; rfl) ?_
        | refine wpList_store_own (by rfl) 36 (.tmp 4) (.tmp 26) (by rfl) bR 0 (A4 h) (by rfl) (by rfl) pR (Nat.le_refl _) infoNum (A4_one _) (by rfl) ?_)
      refine bodyPost_ret (results_own_tmp Tryd.results31 _ _ bR (A4 h) _ (by rfl) (own_setCells pR rfl) Tryd.underlying36 rfl infoNum) rfl ⟨⟨h, c, rfl, hh, hc, HE.out⟩, ?_⟩
      rw [HA.out]
      exact Below.setCells _ _ _ _ hlr hb

set_option maxRecDepth 100000 in
set_option maxHeartbeats 4000000 in
theorem sub_dig (f g : Nat → Nat) (hf : ∀ i, i < 4 → f i < 18446744073709551616) (hg : ∀ i, i < 4 → g i < 18446744073709551616) (w : World) :
    Calls Tryd.prog 30 #[.agg (A4 f), .agg (A4 g)] w fun e w' => (∃ (h : Nat → Nat) (c : Nat), e = .returned (.tuple #[.agg (A4 h), .int .u64 (c : Int)]) ∧ (∀ i, i < 4 → h i < 18446744073709551616) ∧ c ≤ 1 ∧ vl f 4 + 18446744073709551616 ^ 4 * c = vl h 4 + vl g 4) ∧ Below w.heap.size w w' := by
  have hz := (zero_of_info zeroNum).1
  go_enter Tryd.func30, Tryd.ntmps30
  go_wp2_with fail
  obtain ⟨oA, oB, oR, oO, hbW⟩ := four_blocks w (A4 f) (A4 g) (A4 fun _ => 0) (A4 fun _ => 0) 36
  have hAB : w.heap.size ≠ w.heap.size + 1 + 1 + 1 := by omega
  have hBB : w.heap.size + 1 ≠ w.heap.size + 1 + 1 + 1 := by omega
  have hRB : w.heap.size + 1 + 1 ≠ w.heap.size + 1 + 1 + 1 := by omega
  have hlo : w.heap.size ≤ w.heap.size + 1 + 1 + 1 := by omega
  have hlr : w.heap.size ≤ w.heap.size + 1 + 1 := by omega
  generalize ((((w.alloc (Obj.cells (A4 f) 36)).alloc (Obj.cells (A4 g) 36)).alloc (Obj.cells (A4 fun _ => 0) 36)).alloc (Obj.cells (A4 fun _ => 0) 36)) = W at *
  generalize w.heap.size + 1 + 1 + 1 = bO at *
  generalize w.heap.size + 1 + 1 = bR at *
  generalize w.heap.size + 1 = bB at *
  obtain ⟨bA, HA⟩ : ∃ bA, Hid (w.heap.size = bA) := ⟨_, rfl⟩
  rw [HA.out] at oA hAB hlo hlr hbW ⊢
  go_loopw [8, 6] (fun i cc wr => ∃ (k c : Nat) (h : Nat → Nat), k ≤ 4 ∧ i = .int .i64 (k : Int) ∧ cc = .int .u64 (c : Int) ∧ c ≤ 1 ∧ (∀ i, i < 4 → h i < 18446744073709551616) ∧ Own wr bA (A4 f) 36 ∧ Own wr bB (A4 g) 36 ∧ Own wr bR (A4 fun _ => 0) 36 ∧ Own wr bO (A4 h) 36 ∧ Below bA w wr ∧ Hid (vl f k + 18446744073709551616 ^ k * c = vl h k + vl g k)) (fun i _ _ => 4 - (intOf i).toNat)
  case atStart => exact ⟨0, 0, fun _ => 0, by omega, rfl, rfl, by omega, fun _ _ => by show 0 < 18446744073709551616; decide, oA, oB, oR, oO, hbW, by show _ = _; simp [vl]⟩
  case round =>
    obtain ⟨k, c, h, hk, rfl, rfl, hc, hh, pA, pB, pR, pO, hb, He⟩ := hrel
    have hk0 : (0 : Int) ≤ (k : Int) := by omega
    by_cases hlt : k < 4
    · have hki : (k : Int) < 4 := by omega
      obtain ⟨s, c', hrun, hs, hc', hes⟩ := sub64_any (f k) (g k) c (hf k hlt) (hg k hlt) hc
      have Hes := show Hid _ from hes
      have cA := pA.cell (A4_at f k hlt)
      have cB := pB.cell (A4_at g k hlt)
      have cO := pO.cell (A4_at h k hlt)
      have fO := pO.frozen k
      have Hst := show Hid _ from vl_sub_step He.out Hes.out
      clear hes
      generalize f k = x at cA hrun
      generalize g k = y at cB hrun
      go_wp2_with fail
      go_region_with (simp only [hrun])
      all_goals go_wp2_with fail
      all_goals (
        refine ⟨⟨k + 1, c', upd h k s, by omega, by go_num, rfl, hc', fun i hi => ?_, pA.setCell_other (Ne.symm hAB) _, pB.setCell_other (Ne.symm hBB) _, pR.setCell_other (Ne.symm hRB) _, ?_, (hb.setCell hlo _).trans ((Below.refl _ _).drew), Hst.out⟩, by simp [intOf]; omega⟩
        · by_cases e : i = k
          · subst e; rw [upd_same]; exact hs
          · rw [upd_other h k s i e]; exact hh i hi
        · have := pO.setCell k (.int .u64 (s : Int))
          rw [A4_set h k s hlt] at this
          exact this)
    · have hki : ¬ (k : Int) < 4 := by omega
      have hk4 : k = 4 := by omega
      have He' := He.out
      rw [hk4] at He'
      have HE := show Hid _ from He'
      clear He' hk4
      go_upto_region 7 with fail
      go_wp2_with (first
        | refine wpList_load_own (by rfl) 36 (.tmp 7) (by rfl) bO (by rfl) (A4 h) _ pO Tryd.underlying36 (by rfl) (by rw [infoNum]; rfl) ?_
        | refine wpList_store_own (by rfl) 36 (.tmp 4) (.tmp 26) (by rfl) bR 0 (A4 h) (by rfl) (by rfl) pR (Nat.le_refl _) infoNum (A4_one _) (by rfl) ?_)
      refine bodyPost_ret (results_own_tmp Tryd.results30 _ _ bR (A4 h) _ (by rfl) (own_setCells pR rfl) Tryd.underlying36 rfl infoNum) rfl ⟨⟨h, c, rfl, hh, hc, HE.out⟩, ?_⟩
      rw [HA.out]
      exact Below.setCells _ _ _ _ hlr hb
end Go.Proofs.YtofoihebhdpjlaaDoor
