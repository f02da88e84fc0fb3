/- The walk of Sum, New, Len. -/
import Derived.Test.YtgibllaifnnfkaaDoorJW5
namespace Go.Proofs.YtgibllaifnnfkaaDoor.J
open Go.RowKit

/-- The cells of a Sha that was told nothing. -/
def zeroSha : Array Value := shaArr ⟨0, 0, 0, 0, 0, 0, 0, 0⟩ (List.replicate 64 0) 0
theorem zeroSha_size : zeroSha.size = 73 := shaArr_size _ _ _ (by simp)
theorem zero47 : (Tryd.prog.info? 49).map (fun i => (i.zero, i.size)) = some (some (.agg zeroSha), 73) := by kernel_rfl
theorem info47 : (Tryd.prog.info? 49).map (·.size) = some 73 := by kernel_rfl
theorem info25 : (Tryd.prog.info? 22).map (·.size) = some 32 := by kernel_rfl
theorem shaArr_one (s : St) (tl : List Int) (n : Int) : (shaArr s tl n).all (·.oneCell') = true := all_oneCell_toArray fun v hv => by
  simp only [shaL, List.mem_cons, List.mem_append, List.not_mem_nil, or_false] at hv
  rcases hv with rfl | rfl | rfl | rfl | rfl | rfl | rfl | rfl | hv | rfl <;> first | rfl | exact u8s_one _ _ hv

set_option maxRecDepth 100000 in
set_option maxHeartbeats 2000000 in
theorem sumM_any (g : Nat) (l : List Int) (w : World) (hS : ShaAt w g l) (hT : Tabs w) (hn : l.length ≤ 549755813888) :
    Calls Tryd.prog 26 #[.pointer (some ⟨g, 0, none⟩)] w fun e w' => e = .returned (.agg (u8s (digest l)).toArray) ∧ Below w.heap.size w w' := by
  obtain ⟨bl, s, tl, htl, btl, ho, hst, hrest⟩ := hS
  have hz := (zero_of_info zero47).1
  have hsz := shaArr_size s tl l.length htl
  have hi : (Tryd.prog.info? 49).map (·.size) = some (shaArr s tl l.length).size := by rw [info47, hsz]
  go_enter Tryd.func26, Tryd.ntmps26
  go_upto_region 1 with fail
  have oR := own_new w (Array.replicate 32 (Value.int .u8 0)) 22
  have ho := ho.alloc (.cells (Array.replicate 32 (Value.int .u8 0)) 22)
  have hb1 := (Below.refl w.heap.size w).alloc (Nat.le_refl _) (.cells (Array.replicate 32 (Value.int .u8 0)) 22)
  have hlt1 : w.heap.size < (w.alloc (.cells (Array.replicate 32 (Value.int .u8 0)) 22)).heap.size := by simp
  generalize hW1 : w.alloc (.cells (Array.replicate 32 (Value.int .u8 0)) 22) = W1 at *
  rw [show w.alloc (.cells #[.int .u8 0, .int .u8 0, .int .u8 0, .int .u8 0, .int .u8 0, .int .u8 0, .int .u8 0, .int .u8 0, .int .u8 0, .int .u8 0, .int .u8 0, .int .u8 0, .int .u8 0, .int .u8 0, .int .u8 0, .int .u8 0, .int .u8 0, .int .u8 0, .int .u8 0, .int .u8 0, .int .u8 0, .int .u8 0, .int .u8 0, .int .u8 0, .int .u8 0, .int .u8 0, .int .u8 0, .int .u8 0, .int .u8 0, .int .u8 0, .int .u8 0, .int .u8 0] 22) = W1 from hW1]
  clear hW1
  have hg1 : 2 < W1.heap.size ∧ 5 < W1.heap.size := ⟨Nat.lt_of_lt_of_le hT.2.1 hb1.size, Nat.lt_of_lt_of_le hT.1.1 hb1.size⟩
  go_upto_region 2 with (first | refine wpList_load_own (by rfl) 49 (.tmp 8) (by rfl) g (by rfl) (shaArr s tl l.length) _ ho Tryd.underlying49 (by rfl) hi ?_ | refine wpList_store_new (by rfl) 49 (.tmp 3) (.tmp 9) (by rfl) _ (shaArr s tl l.length) (by rfl) (by rfl) hi (by rw [hsz, zeroSha_size]) (shaArr_one _ _ _) (by rfl) ?_)
  have oE := own_new W1 (shaArr s tl l.length) 49
  have ho := ho.alloc (.cells (shaArr s tl l.length) 49)
  have oR := oR.alloc (.cells (shaArr s tl l.length) 49)
  have hb2 := hb1.alloc hb1.size (.cells (shaArr s tl l.length) 49)
  have hlt2 : W1.heap.size < (W1.alloc (.cells (shaArr s tl l.length) 49)).heap.size := by simp
  generalize W1.alloc (.cells (shaArr s tl l.length) 49) = W2 at *
  generalize W1.heap.size = E at *
  have hSE : ShaAt W2 E l := ⟨bl, s, tl, htl, btl, oE, hst, hrest⟩
  have c72 := ho.cell (shaArr_len s tl l.length htl)
  have hT2 : Tabs W2 := hT.grown (g := E) (grown_below hb2 _) hg1
  go_wp2_with fail
  refine (pad_any l.length _ (by omega)).mono ?_
  rintro e w3 ⟨rfl, oP, hb3⟩
  have hb23 := hb2.trans (hb3.mono hb2.size)
  have hT3 : Tabs w3 := hT2.grown (g := E) (grown_below hb3 _) hg1
  have hSE3 : ShaAt w3 E l := ⟨bl, s, tl, htl, btl, oE.below hb3 hlt2, hst, hrest⟩
  have hpl := padL_length l.length
  have hnt : noughts l.length ≤ 63 := by unfold noughts; omega
  have oR3 := oR.below hb3 (by omega)
  have hSl : SliceOf w3 E (.slice (some ⟨W2.heap.size, 0, none⟩) (padL l.length).length (padL l.length).length) (padL l.length) :=
    ⟨_, _, _, rfl, rfl, Nat.le_refl _, by rw [hpl]; unfold maxLen; omega, padL_bys _ (by omega), fun _ => ⟨W2.heap.size, 0, rfl, by omega, by simpa using oP.range⟩⟩
  have hpn : Hid (l.length + (padL l.length).length ≤ 1099511627776) := by show _ ≤ _; rw [hpl]; omega
  clear c72 hpl
  go_wp2_with fail
  refine (write_any E l (padL l.length) _ _ _ _ hSE3 hSl hT3 hg1 hpn.out).mono ?_
  rintro e w4 ⟨rfl, hS4, hg4⟩
  have hb4 := below_grown hb23 hg4 hb23.size (by omega)
  have oR4 : Own w4 w.heap.size (Array.replicate 32 (.int .u8 0)) 22 := by unfold Own; rw [hg4.block _ (by have := hb23.size; have := oR3.lt; omega) (by simp; omega)]; exact oR3
  have hlt4 := oR4.lt
  obtain ⟨_, s4, tl4, htl4, btl4, ho4, hst4, _⟩ := hS4
  have hne : l ++ padL l.length ≠ [] := by simp [padL]
  have hs4 : s4 = endSt l := hst4 hne
  have HS4 := show Hid _ from hs4
  have ok4 : s4.ok := by rw [hs4]; exact stOf_ok _
  clear hs4 hst4 hSl hSE3 hT3 hT2 hSE oR3 oP hb3 oE ho hz hi hsz hb1 oR hb2 hb23
  go_upto_region 4 with fail
  have oS := own_new w4 (Array.replicate 32 (Value.int .u8 0)) 22
  have ho5 := ho4.alloc (.cells (Array.replicate 32 (Value.int .u8 0)) 22)
  have oR5 := oR4.alloc (.cells (Array.replicate 32 (Value.int .u8 0)) 22)
  have hb5 := hb4.alloc hb4.size (.cells (Array.replicate 32 (Value.int .u8 0)) 22)
  generalize hW5 : w4.alloc (.cells (Array.replicate 32 (Value.int .u8 0)) 22) = W5 at *
  rw [show w4.alloc (.cells #[.int .u8 0, .int .u8 0, .int .u8 0, .int .u8 0, .int .u8 0, .int .u8 0, .int .u8 0, .int .u8 0, .int .u8 0, .int .u8 0, .int .u8 0, .int .u8 0, .int .u8 0, .int .u8 0, .int .u8 0, .int .u8 0, .int .u8 0, .int .u8 0, .int .u8 0, .int .u8 0, .int .u8 0, .int .u8 0, .int .u8 0, .int .u8 0, .int .u8 0, .int .u8 0, .int .u8 0, .int .u8 0, .int .u8 0, .int .u8 0, .int .u8 0, .int .u8 0] 22) = W5 from hW5]
  clear hW5 oR4 hb4 ho4 hg4
  generalize w4.heap.size = M at *
  have hRM : w.heap.size ≠ M := by omega
  obtain ⟨c0, c1, c2, c3, c4, c5, c6, c7, fz⟩ := sha_facts ho5
  rw [← sumL_zero s4] at oS
  have hidx : ∀ (k : Nat) (v : Value), k < 8 → (stArr s4)[k]? = some v → ∀ w', (Instr.index 47 (.agg #[.int .u32 s4.a, .int .u32 s4.b, .int .u32 s4.c, .int .u32 s4.d, .int .u32 s4.e, .int .u32 s4.f, .int .u32 s4.g, .int .u32 s4.h]) (.int .i64 (k : Int))).run Tryd.prog w' = .ok v w' := fun k v hk hv w' => run_index_arr Tryd.underlying47 Tryd.underlying46 info39 (stArr s4) k v hk hv w'
  have HX := show Hid _ from hidx
  clear hidx
  go_wp2_with fail
  go_loopw [18] (fun i wr => ∃ k : Nat, k ≤ 8 ∧ i = .int .i64 k ∧ Own wr M (sumL s4 k).toArray 22 ∧ W5.grownBy wr (some M)) (fun i _ => 8 - (intOf i).toNat)
  case atStart => exact ⟨0, by omega, rfl, oS, grown_refl _ _⟩
  case round =>
    obtain ⟨k, hk, rfl, oS, hgr⟩ := hrel
    by_cases hlt : k < 8
    · have hv : (stArr s4)[k]? = some (.int .u32 ((stWords s4).getD k 0)) := by
        rcases k with _ | _ | _ | _ | _ | _ | _ | _ | k
        all_goals first | rfl | omega
      have hidx := HX.out k _ hlt hv
      have hx : 0 ≤ (stWords s4).getD k 0 ∧ (stWords s4).getD k 0 < 4294967296 := by
        obtain ⟨x0, x1, x2, x3, x4, x5, x6, x7⟩ := ok4
        rcases k with _ | _ | _ | _ | _ | _ | _ | _ | k
        all_goals first | assumption | omega
      obtain ⟨L1, L2, hL1, e1, e2⟩ := sumL_split s4 k hlt
      have HE1 := show Hid _ from e1
      have HE2 := show Hid _ from e2
      clear e1 e2
      generalize (stWords s4).getD k 0 = x at *
      have hki : (k : Int) < 8 := by omega
      have hk32 : (4 * (k : Int)) ≤ 32 := by omega
      have hk0 : (0 : Int) ≤ 4 * (k : Int) := by omega
      have hkn : ¬ (32 = 4 * k) := by omega
      go_wp2_with fail
      refine (putWord_own M (4 * k) _ _ x _ _ _ oS (by have := sumL_length s4 k hk; simp; omega) (by omega) (by omega) hx.1 hx.2).mono ?_
      rintro e w6 ⟨rfl, oS6, hg6⟩
      rw [HE1.out, put4_list _ _ _ _ _ _ _ _ hL1.symm, ← HE2.out] at oS6
      go_wp2
      go_roundw
      case rel => exact ⟨k + 1, by omega, by go_num, oS6, grown_trans hgr hg6⟩
      case measure => simp [intOf]; omega
    · have Hk : Hid (k = 8) := show k = 8 by omega
      have hsz : (sumL s4 k).toArray.size = 32 := by rw [List.size_toArray]; exact sumL_length s4 k hk
      have hi : (Tryd.prog.info? 22).map (·.size) = some (sumL s4 k).toArray.size := by rw [info25, hsz]
      have oR6 : Own wr w.heap.size (Array.replicate 32 (.int .u8 0)) 22 := by unfold Own; rw [hgr.block _ oR5.lt (by simpa using hRM)]; exact oR5
      have h1 : (sumL s4 k).toArray.all (·.oneCell') = true := all_oneCell_toArray fun v hv => by
        rcases List.mem_append.1 hv with h | h
        · exact u8s_one _ _ h
        · obtain ⟨_, rfl⟩ := List.mem_replicate.1 h; rfl
      have hb6 := below_grown hb5 hgr hb5.size (by omega)
      have Hd : Hid ((sumL s4 k).toArray = (u8s (digest l)).toArray) := by
        show _ = _
        rw [Hk.out, sumL_eight, HS4.out]; rfl
      generalize (sumL s4 k).toArray = A at *
      have hfit : 0 + A.size ≤ (Array.replicate 32 (Value.int .u8 0)).size := by rw [hsz, Array.size_replicate]; decide
      go_upto_region 9 with fail
      go_wp2_with (first | refine wpList_load_own (by rfl) 22 (.tmp 4) (by rfl) M (by rfl) A _ oS Tryd.underlying22 (by rfl) hi ?_ | refine wpList_store_own (by rfl) 22 (.tmp 2) (.tmp 28) (by rfl) w.heap.size 0 A (by rfl) (by rfl) oR6 hfit hi h1 (by rfl) ?_)
      refine bodyPost_ret (results_own Tryd.results26 _ _ w.heap.size A _ rfl (own_setCells oR6 (by rw [hsz, Array.size_replicate])) Tryd.underlying22 rfl hi) rfl ⟨by rw [Hd.out], ?_⟩
      exact Below.setCells _ _ _ _ (Nat.le_refl _) hb6

theorem shaAt_zero (w : World) (g : Nat) (ho : Own w g zeroSha 49) : ShaAt w g [] :=
  ⟨fun _ h => by simp at h, _, _, by simp, fun x h => by obtain ⟨_, rfl⟩ := List.mem_replicate.1 h; decide, ho, fun h => absurd rfl h, rfl⟩

set_option maxRecDepth 100000 in
theorem new_any (w : World) : Calls Tryd.prog 44 #[] w fun e w' => e = .returned (.pointer (some ⟨w.heap.size, 0, none⟩)) ∧ ShaAt w' w.heap.size [] ∧ Below w.heap.size w w' ∧ w.heap.size < w'.heap.size := by
  have hz := (zero_of_info zero47).1
  go_enter Tryd.func44, Tryd.ntmps44
  go_wp2
  go_ret
  exact ⟨rfl, shaAt_zero _ _ (own_new _ _ _), (Below.refl _ _).alloc (Nat.le_refl _) _, by simp⟩
end Go.Proofs.YtgibllaifnnfkaaDoor.J
