/- The program's kinds: public keys, signatures, verifying. -/
import Derived.Test.YtgibllaifnnfkaaDoorUV2
import Derived.Test.YtgibllaifnnfkaaDoorUS
namespace Go.Proofs.YtgibllaifnnfkaaDoor
open Go Go.RowKit
section
variable {T : World → Prop} (F : Low T) (hJ : ∀ w, T w → J.Tabs w)
set_option maxRecDepth 100000 in
set_option maxHeartbeats 400000 in
include F hJ in
theorem spub_is {kind : Int} (hk : kind = 1 ∨ kind = 2) (n : Nat) (w : World) (hT : T w) : Calls Tryd.prog 5 #[.int .i64 kind, .agg (B32 (bdig n))] w fun x w' => x = .returned (.tuple #[.agg (B32 (bdig (pubK kind n))), .int .i64 0]) ∧ Below w.heap.size w w' := by
  have hz := (zero_of_info zeroB32).1
  obtain ⟨y, Hy⟩ : ∃ y, Hid (pubK kind n = y) := ⟨_, rfl⟩
  have h1 : Hid (kind = 1 → ∀ w, T w → Calls Tryd.prog 7 #[.agg (B32 (bdig n))] w fun x w' => x = .returned (.agg (B32 (bdig y))) ∧ Below w.heap.size w w') := fun e w hT => by
    subst e
    rw [← Hy.out, show pubK 1 n = pubOf n from if_pos rfl]
    exact public_is F n w hT
  have h2 : Hid (kind = 2 → ∀ w, T w → Calls Tryd.prog 14 #[.agg (B32 (bdig n))] w fun x w' => x = .returned (.agg (B32 (bdig y))) ∧ Below w.heap.size w w') := fun e w hT => by
    subst e
    rw [← Hy.out, show pubK 2 n = opub n from if_neg (by decide)]
    exact opublic_is n w (hJ w hT)
  rw [Hy.out]
  clear Hy
  rcases hk with rfl | rfl
  all_goals
    go_enter Tryd.func5, Tryd.ntmps5
    go_upto_region 1 with fail
    have hK := ((Kp.nil w).alloc (B32 (bdig n)) 22).alloc (B32 fun _ => 0) 22
    rw [World.size_alloc] at hK
    generalize (w.alloc (.cells (B32 (bdig n)) 22)).alloc (.cells (B32 fun _ => 0) 22) = W at *
    obtain ⟨bA, HbA⟩ : ∃ b, Hid (w.heap.size = b) := ⟨_, rfl⟩
    obtain ⟨bR, HbR⟩ : ∃ b, Hid (bA + 1 = b) := ⟨_, rfl⟩
    have le_bR : Hid (w.heap.size ≤ bR) := by show _ ≤ _; have := HbA.out; have := HbR.out; omega
    rw [HbA.out, HbR.out] at hK ⊢
    go_wp2_with (refine wpList_load_own (by rfl) 22 (.tmp 3) (by rfl) bA (by rfl) (B32 (bdig n)) _ (hK.at bA (B32 (bdig n)) 22 (.tail _ (.head _))) Tryd.underlying22 (by rfl) (B32_info _) ?_)
    first | refine (h1.out (by trivial) _ (F.keep _ _ hT hK.2)).mono ?_ | refine (h2.out (by trivial) _ (F.keep _ _ hT hK.2)).mono ?_
    rintro e V5 ⟨rfl, bw⟩
    have hK := hK.below bw
    clear bw
    go_wp2_with (first
      | refine wpList_store_own (op := { dst := none, op := _, type := _, pos := _, after := _, guard := _ }) rfl 22 (.tmp 4) (.tmp 10) rfl bR 0 (B32 (bdig y)) (by rfl) (by rfl) (hK.at bR (B32 fun _ => 0) 22 (.head _)) (B32_le _ _) (B32_info _) (B32_one _) (by rfl) ?_
      | refine wpList_store_own (op := { dst := none, op := _, type := _, pos := _, after := _, guard := _ }) rfl 22 (.tmp 4) (.tmp 14) rfl bR 0 (B32 (bdig y)) (by rfl) (by rfl) (hK.at bR (B32 fun _ => 0) 22 (.head _)) (B32_le _ _) (B32_info _) (B32_one _) (by rfl) ?_)
    exact bodyPost_ret (results_own_tmp Tryd.results5 _ _ bR (B32 (bdig y)) _ (by rfl) (own_setCells (hK.at bR (B32 fun _ => 0) 22 (.head _)) (B32_sizes _ _)) Tryd.underlying22 rfl (B32_info _)) rfl ⟨rfl, Below.setCells _ _ _ _ le_bR.out hK.2⟩
set_option maxRecDepth 100000 in
set_option maxHeartbeats 400000 in
theorem spub_no {kind : Int} (h1 : kind ≠ 1) (h2 : kind ≠ 2) (n : Nat) (w : World) : Calls Tryd.prog 5 #[.int .i64 kind, .agg (B32 (bdig n))] w fun x w' => x = .returned (.tuple #[.agg (B32 fun _ => 0), .int .i64 1]) ∧ Below w.heap.size w w' := by
  have hz := (zero_of_info zeroB32).1
  have hd1 : decide (kind = 1) = false := decide_eq_false h1
  have hd2 : decide (kind = 2) = false := decide_eq_false h2
  · go_enter Tryd.func5, Tryd.ntmps5
    go_upto_region 1 with fail
    have hK := ((Kp.nil w).alloc (B32 (bdig n)) 22).alloc (B32 fun _ => 0) 22
    rw [World.size_alloc] at hK
    generalize (w.alloc (.cells (B32 (bdig n)) 22)).alloc (.cells (B32 fun _ => 0) 22) = W at *
    obtain ⟨bA, HbA⟩ : ∃ b, Hid (w.heap.size = b) := ⟨_, rfl⟩
    obtain ⟨bR, HbR⟩ : ∃ b, Hid (bA + 1 = b) := ⟨_, rfl⟩
    have le_bR : Hid (w.heap.size ≤ bR) := by show _ ≤ _; have := HbA.out; have := HbR.out; omega
    rw [HbA.out, HbR.out] at hK ⊢
    go_wp2_with (refine wpList_store_own (op := { dst := none, op := _, type := _, pos := _, after := _, guard := _ }) rfl 22 (.tmp 4) (.tmp 15) rfl bR 0 (B32 fun _ => 0) (by rfl) (by rfl) (hK.at bR (B32 fun _ => 0) 22 (.head _)) (B32_le _ _) (B32_info _) (B32_one _) (by rfl) ?_)
    exact bodyPost_ret (results_own_tmp Tryd.results5 _ _ bR (B32 fun _ => 0) _ (by rfl) (own_setCells (hK.at bR (B32 fun _ => 0) 22 (.head _)) (B32_sizes _ _)) Tryd.underlying22 rfl (B32_info _)) rfl ⟨rfl, Below.setCells _ _ _ _ le_bR.out hK.2⟩
set_option maxRecDepth 100000 in
set_option maxHeartbeats 400000 in
include F hJ in
theorem ssgn_is {kind : Int} (hk : kind = 1 ∨ kind = 2) (n : Nat) {ta : Option Addr} {tc : Nat} {m : List Int} (hl : m.length ≤ 1000) (w : World) (hT : T w) (hm : Txt w ta tc m) : Calls Tryd.prog 6 #[.int .i64 kind, .agg (B32 (bdig n)), .slice ta m.length tc] w fun x w' => x = .returned (.tuple #[.agg (B64 (bdig (two (sgR kind n m) (sgS kind n m)))), .int .i64 0]) ∧ Below w.heap.size w w' := by
  have hz := (zero_of_info zeroB32).1
  have hz64 := (zero_of_info zeroB64).1
  obtain ⟨y, Hy⟩ : ∃ y, Hid (two (sgR kind n m) (sgS kind n m) = y) := ⟨_, rfl⟩
  obtain ⟨q, Hq⟩ : ∃ q, Hid (opub n = q) := ⟨_, rfl⟩
  have hl := show Hid _ from hl
  have h1 : Hid (kind = 1 → ∀ w, T w → Txt w ta tc m → Calls Tryd.prog 8 #[.agg (B32 (bdig n)), .slice ta m.length tc] w fun x w' => x = .returned (.agg (B64 (bdig y))) ∧ Below w.heap.size w w') := fun e w hT hm => by
    subst e
    rw [← Hy.out, show sgR 1 n m = rOf n m from if_pos rfl, show sgS 1 n m = sOf n m from if_pos rfl]
    exact sign_is F n hl.out w hT hm
  have h2 : Hid (kind = 2 → ∀ w, T w → Txt w ta tc m → Calls Tryd.prog 15 #[.agg (B32 (bdig q)), .slice ta m.length tc] w fun x w' => x = .returned (.agg (B64 (bdig y))) ∧ Below w.heap.size w w') := fun e w hT hm => by
    subst e
    rw [← Hy.out, ← Hq.out, show sgR 2 n m = oR (opub n) m from if_neg (by decide), show sgS 2 n m = oS (opub n) m from if_neg (by decide)]
    exact osig_is hl.out w (hJ w hT) hm
  have h3 : Hid (∀ w, T w → Calls Tryd.prog 14 #[.agg (B32 (bdig n))] w fun x w' => x = .returned (.agg (B32 (bdig q))) ∧ Below w.heap.size w w') := fun w hT => by
    rw [← Hq.out]
    exact opublic_is n w (hJ w hT)
  rw [Hy.out]
  clear Hy Hq
  rcases hk with rfl | rfl
  all_goals
    go_enter Tryd.func6, Tryd.ntmps6
    go_upto_region 1 with fail
    have hK := ((Kp.nil w).alloc (B32 (bdig n)) 22).alloc (B64 fun _ => 0) 24
    rw [World.size_alloc] at hK
    generalize (w.alloc (.cells (B32 (bdig n)) 22)).alloc (.cells (B64 fun _ => 0) 24) = W at *
    obtain ⟨bA, HbA⟩ : ∃ b, Hid (w.heap.size = b) := ⟨_, rfl⟩
    obtain ⟨bR, HbR⟩ : ∃ b, Hid (bA + 1 = b) := ⟨_, rfl⟩
    have le_bR : Hid (w.heap.size ≤ bR) := by show _ ≤ _; have := HbA.out; have := HbR.out; omega
    rw [HbA.out, HbR.out] at hK ⊢
    go_wp2_with (refine wpList_load_own (by rfl) 22 (.tmp 4) (by rfl) bA (by rfl) (B32 (bdig n)) _ (hK.at bA (B32 (bdig n)) 22 (.tail _ (.head _))) Tryd.underlying22 (by rfl) (B32_info _) ?_)
  · refine (h1.out (by trivial) _ (F.keep _ _ hT hK.2) (hm.below hK.2)).mono ?_
    rintro e V5 ⟨rfl, bw⟩
    have hK := hK.below bw
    clear bw
    go_wp2_with (refine wpList_store_own (op := { dst := none, op := _, type := _, pos := _, after := _, guard := _ }) rfl 24 (.tmp 6) (.tmp 13) rfl bR 0 (B64 (bdig y)) (by rfl) (by rfl) (hK.at bR (B64 fun _ => 0) 24 (.head _)) (B64_le _ _) (B64_info _) (B64_one _) (by rfl) ?_)
    exact bodyPost_ret (results_own_tmp Tryd.results6 _ _ bR (B64 (bdig y)) _ (by rfl) (own_setCells (hK.at bR (B64 fun _ => 0) 24 (.head _)) (B64_sizes _ _)) Tryd.underlying24 rfl (B64_info _)) rfl ⟨rfl, Below.setCells _ _ _ _ le_bR.out hK.2⟩
  · refine (h3.out _ (F.keep _ _ hT hK.2)).mono ?_
    rintro e V5 ⟨rfl, bw⟩
    have hK := hK.below bw
    clear bw
    go_wp2_with fail
    refine (h2.out (by trivial) _ (F.keep _ _ hT hK.2) (hm.below hK.2)).mono ?_
    rintro e V6 ⟨rfl, bw⟩
    have hK := hK.below bw
    clear bw
    go_wp2_with (refine wpList_store_own (op := { dst := none, op := _, type := _, pos := _, after := _, guard := _ }) rfl 24 (.tmp 6) (.tmp 19) rfl bR 0 (B64 (bdig y)) (by rfl) (by rfl) (hK.at bR (B64 fun _ => 0) 24 (.head _)) (B64_le _ _) (B64_info _) (B64_one _) (by rfl) ?_)
    exact bodyPost_ret (results_own_tmp Tryd.results6 _ _ bR (B64 (bdig y)) _ (by rfl) (own_setCells (hK.at bR (B64 fun _ => 0) 24 (.head _)) (B64_sizes _ _)) Tryd.underlying24 rfl (B64_info _)) rfl ⟨rfl, Below.setCells _ _ _ _ le_bR.out hK.2⟩
set_option maxRecDepth 100000 in
set_option maxHeartbeats 400000 in
theorem ssgn_no {kind : Int} (h1 : kind ≠ 1) (h2 : kind ≠ 2) (n : Nat) {ta : Option Addr} {tc : Nat} {m : List Int} (w : World) : Calls Tryd.prog 6 #[.int .i64 kind, .agg (B32 (bdig n)), .slice ta m.length tc] w fun x w' => x = .returned (.tuple #[.agg (B64 fun _ => 0), .int .i64 1]) ∧ Below w.heap.size w w' := by
  have hz := (zero_of_info zeroB32).1
  have hz64 := (zero_of_info zeroB64).1
  have hd1 : decide (kind = 1) = false := decide_eq_false h1
  have hd2 : decide (kind = 2) = false := decide_eq_false h2
  · go_enter Tryd.func6, Tryd.ntmps6
    go_upto_region 1 with fail
    have hK := ((Kp.nil w).alloc (B32 (bdig n)) 22).alloc (B64 fun _ => 0) 24
    rw [World.size_alloc] at hK
    generalize (w.alloc (.cells (B32 (bdig n)) 22)).alloc (.cells (B64 fun _ => 0) 24) = W at *
    obtain ⟨bA, HbA⟩ : ∃ b, Hid (w.heap.size = b) := ⟨_, rfl⟩
    obtain ⟨bR, HbR⟩ : ∃ b, Hid (bA + 1 = b) := ⟨_, rfl⟩
    have le_bR : Hid (w.heap.size ≤ bR) := by show _ ≤ _; have := HbA.out; have := HbR.out; omega
    rw [HbA.out, HbR.out] at hK ⊢
    go_wp2_with (refine wpList_store_own (op := { dst := none, op := _, type := _, pos := _, after := _, guard := _ }) rfl 24 (.tmp 6) (.tmp 20) rfl bR 0 (B64 fun _ => 0) (by rfl) (by rfl) (hK.at bR (B64 fun _ => 0) 24 (.head _)) (B64_le _ _) (B64_info _) (B64_one _) (by rfl) ?_)
    exact bodyPost_ret (results_own_tmp Tryd.results6 _ _ bR (B64 fun _ => 0) _ (by rfl) (own_setCells (hK.at bR (B64 fun _ => 0) 24 (.head _)) (B64_sizes _ _)) Tryd.underlying24 rfl (B64_info _)) rfl ⟨rfl, Below.setCells _ _ _ _ le_bR.out hK.2⟩
set_option maxRecDepth 100000 in
set_option maxHeartbeats 400000 in
include F hJ in
theorem sver_is (kind : Int) {p R S : Nat} {ta : Option Addr} {tc : Nat} {m : List Int} (lp : p < R256) (lR : R < R256) (lS : S < R256) (hl : m.length ≤ 1000) (w : World) (hT : T w) (hm : Txt w ta tc m) : Calls Tryd.prog 9 #[.int .i64 kind, .agg (B32 (bdig p)), .slice ta m.length tc, .agg (B64 (bdig (two R S)))] w fun x w' => x = .returned (.bool (verK kind p m R S)) ∧ Below w.heap.size w w' := by
  have hz := (zero_of_info zeroB32).1
  have hz64 := (zero_of_info zeroB64).1
  obtain ⟨v, Hv⟩ : ∃ v, Hid (verK kind p m R S = v) := ⟨_, rfl⟩
  obtain ⟨z, Hz⟩ : ∃ z, Hid (two R S = z) := ⟨_, rfl⟩
  obtain ⟨y, Hy⟩ : ∃ y, Hid (two (oR p m) (oS p m) = y) := ⟨_, rfl⟩
  have lz : Hid (z < R512) := by show _ < _; rw [← Hz.out]; exact two_lt lR lS
  have ly : Hid (y < R512) := by show _ < _; rw [← Hy.out]; exact two_lt (oR_lt _ _) (oS_lt _ _)
  have hl := show Hid _ from hl
  have h1 : Hid (kind = 1 → ∀ w, T w → Txt w ta tc m → Calls Tryd.prog 10 #[.agg (B32 (bdig p)), .slice ta m.length tc, .agg (B64 (bdig z))] w fun x w' => x = .returned (.bool v) ∧ Below w.heap.size w w') := fun e w hT hm => by
    subst e
    rw [← Hv.out, ← Hz.out, show verK 1 p m R S = signedB p m R S from if_pos rfl]
    exact verify_is F lp lR lS hl.out w hT hm
  have h2 : Hid (∀ w, T w → Txt w ta tc m → Calls Tryd.prog 15 #[.agg (B32 (bdig p)), .slice ta m.length tc] w fun x w' => x = .returned (.agg (B64 (bdig y))) ∧ Below w.heap.size w w') := fun w hT hm => by
    rw [← Hy.out]
    exact osig_is hl.out w (hJ w hT) hm
  have h3 : Hid (kind = 2 → decide (z = y) = v) := fun e => by
    subst e
    rw [← Hv.out, ← Hz.out, ← Hy.out]
    unfold verK
    rw [if_neg (by decide), if_pos rfl]
  have h4 : Hid (kind ≠ 1 → kind ≠ 2 → v = false) := fun a b => by
    rw [← Hv.out]
    unfold verK
    rw [if_neg a, if_neg b]
  rw [Hv.out, Hz.out]
  clear Hv Hz Hy
  by_cases k1 : kind = 1
  · subst k1
    go_enter Tryd.func9, Tryd.ntmps9
    go_upto_region 1 with fail
    have hK := ((Kp.nil w).alloc (B32 (bdig p)) 22).alloc (B64 (bdig z)) 24
    rw [World.size_alloc] at hK
    generalize (w.alloc (.cells (B32 (bdig p)) 22)).alloc (.cells (B64 (bdig z)) 24) = W at *
    obtain ⟨bA, HbA⟩ : ∃ b, Hid (w.heap.size = b) := ⟨_, rfl⟩
    obtain ⟨bS, HbS⟩ : ∃ b, Hid (bA + 1 = b) := ⟨_, rfl⟩
    rw [HbA.out, HbS.out] at hK ⊢
    go_wp2_with (first
      | refine wpList_load_own (by rfl) 22 (.tmp 5) (by rfl) bA (by rfl) (B32 (bdig p)) _ (hK.at bA (B32 (bdig p)) 22 (.tail _ (.head _))) Tryd.underlying22 (by rfl) (B32_info _) ?_
      | refine wpList_load_own (by rfl) 24 (.tmp 7) (by rfl) bS (by rfl) (B64 (bdig z)) _ (hK.at bS (B64 (bdig z)) 24 (.head _)) Tryd.underlying24 (by rfl) (B64_info _) ?_)
    refine (h1.out (by trivial) _ (F.keep _ _ hT hK.2) (hm.below hK.2)).mono ?_
    rintro e V5 ⟨rfl, bw⟩
    have hK := hK.below bw
    clear bw
    go_wp2_with fail
    go_ret
    exact ⟨rfl, hK.2⟩
  by_cases k2 : kind = 2
  · subst k2
    have hv := h3.out rfl
    subst hv
    go_enter Tryd.func9, Tryd.ntmps9
    go_upto_region 1 with fail
    have hK := ((Kp.nil w).alloc (B32 (bdig p)) 22).alloc (B64 (bdig z)) 24
    rw [World.size_alloc] at hK
    generalize (w.alloc (.cells (B32 (bdig p)) 22)).alloc (.cells (B64 (bdig z)) 24) = W at *
    obtain ⟨bA, HbA⟩ : ∃ b, Hid (w.heap.size = b) := ⟨_, rfl⟩
    obtain ⟨bS, HbS⟩ : ∃ b, Hid (bA + 1 = b) := ⟨_, rfl⟩
    rw [HbA.out, HbS.out] at hK ⊢
    go_upto_region 6 with fail
    refine wp_region_lv 23 (fun _ => [(bS, B64 (bdig z), 24), (bA, B32 (bdig p), 22)]) [.v (.agg (B64 (bdig z))), .v (.agg (B32 (bdig p))), .v (.slice ta m.length tc), .v (.agg (B64 (bdig y))), .v (.bool (decide (z = y))), .v (.bool (decide (z = y)))] hK (by kernel_rfl) (by kernel_rfl) (by kernel_rfl) (by rfl) (.c (.ld bS (fun _ => .head _) Tryd.underlying24 rfl (B64_info _)) <| .c (.ld bA (fun _ => .tail _ (.head _)) Tryd.underlying22 rfl (B32_info _)) <| .c (.p1 2 (.slice ta m.length tc)) <| .c (.ca fun _ w hk => h2.out w (F.keep _ _ hT hk.2) (hm.below hk.2)) <| .c (.p2 18 (.agg (B64 (bdig z))) 21 (.agg (B64 (bdig y))) (h := by intro ac wc f f'; have he := B64_eq z y lz.out ly.out wc; have q := getq f; have q' := getq f'; go_simp)) <| .c (.p1 22 (.bool (decide (z = y)))) .nil) ?_
    intro vs V1 hJ1 hf
    have hK := hJ1.1
    simp only [putL, Lv.val, Act.put, List.setIfInBounds_toArray, List.set_cons_succ, List.set_cons_zero]
    go_wp2_with fail
    go_ret
    exact ⟨rfl, hK.2⟩
  · have hv := h4.out k1 k2
    subst hv
    have hd1 : decide (kind = 1) = false := decide_eq_false k1
    have hd2 : decide (kind = 2) = false := decide_eq_false k2
    go_enter Tryd.func9, Tryd.ntmps9
    go_upto_region 1 with fail
    have hK := ((Kp.nil w).alloc (B32 (bdig p)) 22).alloc (B64 (bdig z)) 24
    rw [World.size_alloc] at hK
    generalize (w.alloc (.cells (B32 (bdig p)) 22)).alloc (.cells (B64 (bdig z)) 24) = W at *
    obtain ⟨bA, HbA⟩ : ∃ b, Hid (w.heap.size = b) := ⟨_, rfl⟩
    obtain ⟨bS, HbS⟩ : ∃ b, Hid (bA + 1 = b) := ⟨_, rfl⟩
    rw [HbA.out, HbS.out] at hK ⊢
    go_wp2_with fail
    go_ret
    exact ⟨rfl, hK.2⟩
include F hJ in
theorem ste : Ste T where
  keep := F.keep
  pub := fun _ hk n w hT => spub_is F hJ hk n w hT
  pub_no := fun _ h1 h2 n w _ => spub_no h1 h2 n w
  sgn := fun _ hk n _ _ _ hl w hT hm => ssgn_is F hJ hk n hl w hT hm
  sgn_no := fun _ h1 h2 n _ _ _ _ w _ _ => ssgn_no h1 h2 n w
  ver := fun k _ _ _ _ _ _ lp lR lS hl w hT hm => sver_is F hJ k lp lR lS hl w hT hm
end
end Go.Proofs.YtgibllaifnnfkaaDoor
