/- Of the texts E12: what the card of this claim reaches. -/
import Derived.Test.YtfkcphbbabaefaaDoorXB9
namespace Go.Proofs.YtfkcphbbabaefaaDoor
open Go.RowKit
set_option maxRecDepth 100000 in
set_option maxHeartbeats 16000000 in
theorem root_any (a : Nat) (ha : a < R256) (w : World) : Calls Tryd.prog 46 #[.agg (numA a)] w fun e w' => e = .returned (rootV a) ∧ Below w.heap.size w w' := by
  obtain ⟨m, Hm⟩ : ∃ m, Hid (a % pp = m) := ⟨_, rfl⟩
  have hm : m < R256 := by rw [← Hm.out]; exact lt_of_mod
  obtain ⟨e0, He0⟩ : ∃ e, Hid (pp + 3 = e) := ⟨_, rfl⟩
  obtain ⟨e1, He1⟩ : ∃ e, Hid (e0 / 2 = e) := ⟨_, rfl⟩
  obtain ⟨e2, He2⟩ : ∃ e, Hid (e1 / 2 = e) := ⟨_, rfl⟩
  obtain ⟨e3, He3⟩ : ∃ e, Hid (e2 / 2 = e) := ⟨_, rfl⟩
  have he0 : e0 < R256 := by rw [← He0.out]; decide
  have he1 : e1 < R256 := by have := He1.out; omega
  have he2 : e2 < R256 := by have := He2.out; omega
  have he3 : e3 < R256 := by have := He3.out; omega
  obtain ⟨r, Hr⟩ : ∃ r, Hid (m ^ e3 % pp = r) := ⟨_, rfl⟩
  have hr : r < pp := by rw [← Hr.out]; exact Nat.mod_lt _ pp_pos
  have hrR : r < R256 := Nat.lt_trans hr (by decide)
  have Hra : Hid (a ^ ((pp + 3) / 8) % pp = r) := by
    show _ = _
    have h8 : (pp + 3) / 8 = e3 := by have h0 := He0.out; have h1 := He1.out; have h2 := He2.out; have h3 := He3.out; omega
    rw [← Hr.out, ← Hm.out, h8, ← Nat.pow_mod]
  obtain ⟨y, Hy⟩ : ∃ y, Hid (r * r % pp = y) := ⟨_, rfl⟩
  have hyR : y < R256 := by rw [← Hy.out]; exact lt_of_mod
  have heq := num_eq y m hyR hm
  have hz := (zero_of_info zeroLit).1
  go_enter Tryd.func46, Tryd.ntmps46
  go_upto_region 1 with fail
  have hK0 := ((Kp.nil w).alloc (numA a) 35).alloc (numA 0) 35
  rw [World.size_alloc] at hK0
  rw [show (#[.int .u64 0, .int .u64 0, .int .u64 0, .int .u64 0] : Array Value) = numA 0 from rfl]
  generalize (w.alloc (.cells (numA a) 35)).alloc (.cells (numA 0) 35) = W at *
  obtain ⟨bA, HA⟩ : ∃ bA, Hid (w.heap.size = bA) := ⟨_, rfl⟩
  obtain ⟨bR, HR⟩ : ∃ bR, Hid (bA + 1 = bR) := ⟨_, rfl⟩
  have hle : w.heap.size ≤ bR := by have := HA.out; have := HR.out; omega
  have hleA : w.heap.size ≤ bA := Nat.le_of_eq HA.out
  have nAR : bA ≠ bR := by have := HR.out; omega
  rw [HA.out, HR.out] at hK0 ⊢
  go_wp2_with (refine wpList_load_own (by rfl) 35 (.tmp 1) (by rfl) bA (by rfl) (numA a) _ (hK0.at bA (numA a) 35 (by simp)) Tryd.underlying35 (by rfl) (numA_info a) ?_)
  refine (mod_any a ha W).mono ?_
  rintro e w1 ⟨rfl, hB1⟩
  have hK1 : Kp [(bA, numA a, 35), (bR, numA 0, 35)] w w1 := (hK0.below hB1).sub (by simp)
  rw [Hm.out]
  have hK2 := hK1.set (A' := numA m) (by simp; omega) hleA (numA_sizes m a)
  go_upto_region 2 with (refine wpList_store_own (by rfl) 35 (.tmp 1) (.tmp 10) (by rfl) bA 0 (numA m) (by rfl) (by rfl) (hK1.at bA (numA a) 35 (by simp)) (Nat.le_refl _) (numA_info m) (numA_one m) (by rfl) ?_)
  generalize w1.setCells bA 0 (numA m).toList = W2 at *
  clear hK0 hK1 hB1
  go_wp2_with fail
  refine (P_any W2).mono ?_
  rintro e w3 ⟨rfl, hB3⟩
  have hK3 := hK2.below hB3
  go_wp2_with fail
  rw [show (#[.int .u64 3, .int .u64 0, .int .u64 0, .int .u64 0] : Array Value) = numA 3 from (numA_word 3 (by decide)).symm]
  refine (add_fit (by decide) (by decide) He0.out he0 w3).mono ?_
  rintro e w4 ⟨rfl, hB4⟩
  have hK4 := hK3.below hB4
  have hK5 := hK4.alloc (numA e0) 35
  go_upto_region 3 with (refine wpList_store_new (by rfl) 35 (.tmp 4) (.tmp 15) (by rfl) _ (numA e0) (by rfl) (by rfl) (numA_info e0) (lit4_size _ _ _ _ _) (numA_one e0) (by rfl) ?_)
  generalize w4.alloc (.cells (numA e0) 35) = W5 at *
  generalize w4.heap.size = b4 at *
  clear hK2 hK3 hK4
  refine wp_region_told 55 (by kernel_rfl) (by kernel_rfl) (by rfl) (factR m e0 e1 e2 e3 r) (fun L vs => Mk [(b4, numA e0, 35), (bA, numA m, 35), (bR, numA 0, 35)] w (numA 0) (numA r) 35 (L 6) (L 7) (vs 6)) (fun _ => Mk.drew hK5) ?_ ?_
  · intro L vs ac wc i o hF hLi ho hd K hK
    rcases i with _ | _ | _ | _ | _ | _ | _ | _ | i
    · have ho' := ho
      obtain rfl := Option.some.inj ho
      have f1 : ac.tmps.getD 1 undef = .pointer (some ⟨bA, 0, none⟩) := slott hF 0 hLi 1 (by kernel_rfl)
      refine step_do ho' (wanted_free rfl) ?_
      exact wp_load_own 35 (.tmp 1) rfl bA f1 (numA m) _ 35 (hF.j.1.at bA (numA m) 35 (by simp)) Tryd.underlying35 rfl (numA_info m) (hK _ _ (.inr rfl) hF.j)
    · have ho' := ho
      obtain rfl := Option.some.inj ho
      have f4 : ac.tmps.getD 4 undef = .pointer (some ⟨b4, 0, none⟩) := slott hF 1 hLi 4 (by kernel_rfl)
      refine step_do ho' (wanted_free rfl) ?_
      exact wp_load_own 35 (.tmp 4) rfl b4 f4 (numA e0) _ 35 (hF.j.1.at b4 (numA e0) 35 (by simp)) Tryd.underlying35 rfl (numA_info e0) (hK _ _ (.inr rfl) hF.j)
    · have ho' := ho
      obtain rfl := Option.some.inj ho
      have f18 : ac.tmps.getD 18 undef = .agg (numA e0) := (factt hF hd 1 rfl rfl (by kernel_rfl)).1.trans (factt hF hd 1 rfl rfl (by kernel_rfl)).2
      refine step_do ho' (wanted_free rfl) ?_
      unfold Oper.wp
      go_simp
      refine (half_at he0 He1.out _).mono ?_
      rintro e w' ⟨rfl, hB⟩
      exact hK _ _ (.inr rfl) (hF.j.below hB)
    · have ho' := ho
      obtain rfl := Option.some.inj ho
      have f19 : ac.tmps.getD 19 undef = .agg (numA e1) := (factt hF hd 2 rfl rfl (by kernel_rfl)).1.trans (factt hF hd 2 rfl rfl (by kernel_rfl)).2
      refine step_do ho' (wanted_free rfl) ?_
      unfold Oper.wp
      go_simp
      refine (half_at he1 He2.out _).mono ?_
      rintro e w' ⟨rfl, hB⟩
      exact hK _ _ (.inr rfl) (hF.j.below hB)
    · have ho' := ho
      obtain rfl := Option.some.inj ho
      have f20 : ac.tmps.getD 20 undef = .agg (numA e2) := (factt hF hd 3 rfl rfl (by kernel_rfl)).1.trans (factt hF hd 3 rfl rfl (by kernel_rfl)).2
      refine step_do ho' (wanted_free rfl) ?_
      unfold Oper.wp
      go_simp
      refine (half_at he2 He3.out _).mono ?_
      rintro e w' ⟨rfl, hB⟩
      exact hK _ _ (.inr rfl) (hF.j.below hB)
    · have ho' := ho
      obtain rfl := Option.some.inj ho
      have f17 : ac.tmps.getD 17 undef = .agg (numA m) := (factt hF hd 0 rfl rfl (by kernel_rfl)).1.trans (factt hF hd 0 rfl rfl (by kernel_rfl)).2
      have f21 : ac.tmps.getD 21 undef = .agg (numA e3) := (factt hF hd 4 rfl rfl (by kernel_rfl)).1.trans (factt hF hd 4 rfl rfl (by kernel_rfl)).2
      refine step_do ho' (wanted_free rfl) ?_
      unfold Oper.wp
      go_simp
      refine (pow_at hm he3 Hr.out _).mono ?_
      rintro e w' ⟨rfl, hB⟩
      exact hK _ _ (.inr rfl) (hF.j.below hB)
    · have ho' := ho
      obtain rfl := Option.some.inj ho
      refine step_do ho' (wanted_free rfl) ?_
      have h7 := notyett hF 6 hLi 7 rfl (by kernel_rfl)
      unfold Oper.wp
      go_simp
      rw [show (#[.int .u64 0, .int .u64 0, .int .u64 0, .int .u64 0] : Array Value) = numA 0 from rfl]
      exact hK _ _ (.inr ⟨_, rfl⟩) (Mk.alloc hF.j.1 h7)
    · have ho' := ho
      obtain rfl := Option.some.inj ho
      have f22 : ac.tmps.getD 22 undef = .agg (numA r) := (factt hF hd 5 rfl rfl (by kernel_rfl)).1.trans (factt hF hd 5 rfl rfl (by kernel_rfl)).2
      refine step_do ho' (wanted_free rfl) ?_
      obtain ⟨f6, g, hg⟩ := factt hF hd 6 rfl rfl (by kernel_rfl)
      have h6 := dep hd 6 (by kernel_rfl)
      have hj := hF.j
      rw [hg] at f6
      have hj2 := hj.at h6 hg hLi
      refine wp_store_own 35 (.tmp 6) (.tmp 22) rfl g (numA r) f6 f22 hj2.2.2 (numA_sizes r 0) (numA_info r) (numA_one r) rfl ?_
      exact hK undef _ (.inl rfl) (hj.store h6 hg hLi (numA_sizes r 0))
    · cases ho
  · intro L vs wq hL hJ hf
    obtain ⟨b6, hg⟩ := hf 6 _ _ rfl rfl
    obtain ⟨hKq, hle6, hgn⟩ := hJ.done (hL 6 (by decide)) hg (hL 7 (by decide))
    have n1 : bA ≠ b6 := hgn (bA, numA m, 35) (by simp)
    have n2 : bR ≠ b6 := hgn (bR, numA 0, 35) (by simp)
    have hKq : Kp [(b6, numA r, 35), (bR, numA 0, 35), (bA, numA m, 35)] w wq := hKq.sub (by simp)
    have q0 : vs 0 = _ := hf 0 _ _ rfl rfl
    have q1 : vs 1 = _ := hf 1 _ _ rfl rfl
    have q2 : vs 2 = _ := hf 2 _ _ rfl rfl
    have q3 : vs 3 = _ := hf 3 _ _ rfl rfl
    have q4 : vs 4 = _ := hf 4 _ _ rfl rfl
    have q5 : vs 5 = _ := hf 5 _ _ rfl rfl
    simp only [putAll, Nat.zero_add, Nat.reduceAdd, q0, q1, q2, q3, q4, q5, hg, Act.put, List.setIfInBounds_toArray, List.set_cons_succ, List.set_cons_zero]
    clear q0 q1 q2 q3 q4 q5 hg hf hJ hgn hL hK5
    go_upto_region 4 with fail
    refine wp_region_vals 55 (by kernel_rfl) (by kernel_rfl) (by rfl) (valX r y m) (fun _ => Kp [(b6, numA r, 35), (bR, numA 0, 35), (bA, numA m, 35)] w) hKq.drew ?_ ?_
    · intro L ac wc i o hF hLi ho hd K hK
      rcases i with _ | _ | _ | _ | _ | i
      · have ho' := ho
        obtain rfl := Option.some.inj ho
        have f6 : ac.tmps.getD 6 undef = .pointer (some ⟨b6, 0, none⟩) := slotv hF 0 hLi 6 (by kernel_rfl)
        refine step_do ho' (wanted_free rfl) ?_
        exact wp_load_own 35 (.tmp 6) rfl b6 f6 (numA r) _ 35 (hF.j.at b6 (numA r) 35 (by simp)) Tryd.underlying35 rfl (numA_info r) (hK _ _ (.inr rfl) hF.j)
      · have ho' := ho
        obtain rfl := Option.some.inj ho
        have f6 : ac.tmps.getD 6 undef = .pointer (some ⟨b6, 0, none⟩) := slotv hF 1 hLi 6 (by kernel_rfl)
        refine step_do ho' (wanted_free rfl) ?_
        exact wp_load_own 35 (.tmp 6) rfl b6 f6 (numA r) _ 35 (hF.j.at b6 (numA r) 35 (by simp)) Tryd.underlying35 rfl (numA_info r) (hK _ _ (.inr rfl) hF.j)
      · have ho' := ho
        obtain rfl := Option.some.inj ho
        have f23 : ac.tmps.getD 23 undef = .agg (numA r) := valv hF hd 0 rfl rfl (by kernel_rfl)
        have f24 : ac.tmps.getD 24 undef = .agg (numA r) := valv hF hd 1 rfl rfl (by kernel_rfl)
        refine step_do ho' (wanted_free rfl) ?_
        unfold Oper.wp
        go_simp
        refine (mul_at hrR hrR Hy.out _).mono ?_
        rintro e w' ⟨rfl, hB⟩
        exact hK _ _ (.inr rfl) (hF.j.below hB)
      · have ho' := ho
        obtain rfl := Option.some.inj ho
        have f1 : ac.tmps.getD 1 undef = .pointer (some ⟨bA, 0, none⟩) := slotv hF 3 hLi 1 (by kernel_rfl)
        refine step_do ho' (wanted_free rfl) ?_
        exact wp_load_own 35 (.tmp 1) rfl bA f1 (numA m) _ 35 (hF.j.at bA (numA m) 35 (by simp)) Tryd.underlying35 rfl (numA_info m) (hK _ _ (.inr rfl) hF.j)
      · have ho' := ho
        obtain rfl := Option.some.inj ho
        have f25 : ac.tmps.getD 25 undef = .agg (numA y) := valv hF hd 2 rfl rfl (by kernel_rfl)
        have f26 : ac.tmps.getD 26 undef = .agg (numA m) := valv hF hd 3 rfl rfl (by kernel_rfl)
        refine step_do ho' (wanted_free rfl) ?_
        unfold Oper.wp
        go_simp
        exact hK _ _ (.inr rfl) hF.j
      · cases ho
    · intro L wp hL hKp
      simp only [putAll, valX, Act.put, List.setIfInBounds_toArray, List.set_cons_succ, List.set_cons_zero]
      by_cases hym : y = m
      · have Hres : Hid (rootV a = .tuple #[.agg (numA (evenOf r)), .bool true]) := rootV_first Hra.out Hy.out Hm.out hym
        have Hym := show Hid _ from hym
        clear hym
        rw [show (!decide (y = m)) = false from by rw [decide_eq_true Hym.out]; rfl]
        go_upto_region 7 with fail
        refine wp_region_vals 55 (by kernel_rfl) (by kernel_rfl) (by rfl) (valX r y m) (fun _ => Kp [(b6, numA r, 35), (bR, numA 0, 35), (bA, numA m, 35)] w) hKp.drew ?_ ?_
        · intro L ac wc i o hF hLi ho hd K hK
          rcases i with _ | _ | _ | _ | _ | i
          · have ho' := ho
            obtain rfl := Option.some.inj ho
            have f6 : ac.tmps.getD 6 undef = .pointer (some ⟨b6, 0, none⟩) := slotv hF 0 hLi 6 (by kernel_rfl)
            refine step_do ho' (wanted_free rfl) ?_
            exact wp_load_own 35 (.tmp 6) rfl b6 f6 (numA r) _ 35 (hF.j.at b6 (numA r) 35 (by simp)) Tryd.underlying35 rfl (numA_info r) (hK _ _ (.inr rfl) hF.j)
          · have ho' := ho
            obtain rfl := Option.some.inj ho
            have f6 : ac.tmps.getD 6 undef = .pointer (some ⟨b6, 0, none⟩) := slotv hF 1 hLi 6 (by kernel_rfl)
            refine step_do ho' (wanted_free rfl) ?_
            exact wp_load_own 35 (.tmp 6) rfl b6 f6 (numA r) _ 35 (hF.j.at b6 (numA r) 35 (by simp)) Tryd.underlying35 rfl (numA_info r) (hK _ _ (.inr rfl) hF.j)
          · have ho' := ho
            obtain rfl := Option.some.inj ho
            have f41 : ac.tmps.getD 41 undef = .agg (numA r) := valv hF hd 0 rfl rfl (by kernel_rfl)
            have f42 : ac.tmps.getD 42 undef = .agg (numA r) := valv hF hd 1 rfl rfl (by kernel_rfl)
            refine step_do ho' (wanted_free rfl) ?_
            unfold Oper.wp
            go_simp
            refine (mul_at hrR hrR Hy.out _).mono ?_
            rintro e w' ⟨rfl, hB⟩
            exact hK _ _ (.inr rfl) (hF.j.below hB)
          · have ho' := ho
            obtain rfl := Option.some.inj ho
            have f1 : ac.tmps.getD 1 undef = .pointer (some ⟨bA, 0, none⟩) := slotv hF 3 hLi 1 (by kernel_rfl)
            refine step_do ho' (wanted_free rfl) ?_
            exact wp_load_own 35 (.tmp 1) rfl bA f1 (numA m) _ 35 (hF.j.at bA (numA m) 35 (by simp)) Tryd.underlying35 rfl (numA_info m) (hK _ _ (.inr rfl) hF.j)
          · have ho' := ho
            obtain rfl := Option.some.inj ho
            have f43 : ac.tmps.getD 43 undef = .agg (numA y) := valv hF hd 2 rfl rfl (by kernel_rfl)
            have f44 : ac.tmps.getD 44 undef = .agg (numA m) := valv hF hd 3 rfl rfl (by kernel_rfl)
            refine step_do ho' (wanted_free rfl) ?_
            unfold Oper.wp
            go_simp
            exact hK _ _ (.inr rfl) hF.j
          · cases ho
        · intro L wz hL hKz
          simp only [putAll, valX, Act.put, List.setIfInBounds_toArray, List.set_cons_succ, List.set_cons_zero]
          rw [show (!decide (y = m)) = false from by rw [decide_eq_true Hym.out]; rfl]
          have cX := (hKz.at b6 (numA r) 35 (by simp)).cell (numA_at r 0 (by omega))
          have hodd := odd_word r
          have hx2 : r % 2 = 0 ∨ r % 2 = 1 := by omega
          rcases hx2 with hx2 | hx2
          · rw [hx2] at hodd
            have Hev : Hid (evenOf r = r) := by show _ = _; unfold evenOf; rw [if_neg (by omega)]
            generalize dig r 0 = d0 at *
            go_upto_region 11 with fail
            go_wp2_with (first
              | refine wpList_load_own (by rfl) 35 (.tmp 6) (by rfl) b6 (by rfl) (numA r) _ (hKz.at b6 (numA r) 35 (by simp)) Tryd.underlying35 (by rfl) (numA_info r) ?_
              | refine wpList_store_own (by rfl) 35 (.tmp 2) (.tmp 54) (by rfl) bR 0 (numA r) (by rfl) (by rfl) (hKz.at bR (numA 0) 35 (by simp)) (Nat.le_refl _) (numA_info r) (numA_one r) (by rfl) ?_)
            refine bodyPost_ret (results_own_tmp Tryd.results46 _ _ bR (numA r) _ (by rfl) (own_setCells (hKz.at bR (numA 0) 35 (by simp)) (numA_sizes r 0)) Tryd.underlying35 rfl (numA_info r)) rfl ⟨?_, Below.setCells _ _ _ _ hle hKz.2⟩
            rw [Hres.out, Hev.out]; rfl
          · rw [hx2] at hodd
            have Hev : Hid (evenOf r = pp - r) := by show _ = _; unfold evenOf; rw [if_pos hx2]
            generalize dig r 0 = d0 at *
            go_upto_region 10 with fail
            go_wp2_with (refine wpList_load_own (by rfl) 35 (.tmp 6) (by rfl) b6 (by rfl) (numA r) _ (hKz.at b6 (numA r) 35 (by simp)) Tryd.underlying35 (by rfl) (numA_info r) ?_)
            rw [show (#[.int .u64 0, .int .u64 0, .int .u64 0, .int .u64 0] : Array Value) = numA 0 from rfl]
            refine (fsub_any 0 r (by decide) hrR wz).mono ?_
            rintro e w5 ⟨rfl, hB5⟩
            have hK5 := hKz.below hB5
            obtain ⟨z, Hz⟩ : ∃ z, Hid (pp - r = z) := ⟨_, rfl⟩
            rw [show (0 % pp + pp - r % pp) % pp = z from by rw [← Hz.out]; exact neg_of r hr hx2]
            have hK6 := hK5.set (A' := numA z) (by simp; omega) hle6 (numA_sizes z r)
            go_upto_region 11 with (refine wpList_store_own (by rfl) 35 (.tmp 6) (.tmp 53) (by rfl) b6 0 (numA z) (by rfl) (by rfl) (hK5.at b6 (numA r) 35 (by simp)) (Nat.le_refl _) (numA_info z) (numA_one z) (by rfl) ?_)
            generalize w5.setCells b6 0 (numA z).toList = W6 at *
            go_wp2_with (first
              | refine wpList_load_own (by rfl) 35 (.tmp 6) (by rfl) b6 (by rfl) (numA z) _ (hK6.at b6 (numA z) 35 (by simp)) Tryd.underlying35 (by rfl) (numA_info z) ?_
              | refine wpList_store_own (by rfl) 35 (.tmp 2) (.tmp 54) (by rfl) bR 0 (numA z) (by rfl) (by rfl) (hK6.at bR (numA 0) 35 (by simp)) (Nat.le_refl _) (numA_info z) (numA_one z) (by rfl) ?_)
            refine bodyPost_ret (results_own_tmp Tryd.results46 _ _ bR (numA z) _ (by rfl) (own_setCells (hK6.at bR (numA 0) 35 (by simp)) (numA_sizes z 0)) Tryd.underlying35 rfl (numA_info z)) rfl ⟨?_, Below.setCells _ _ _ _ hle hK6.2⟩
            rw [Hres.out, Hev.out, Hz.out]; rfl
      · have Hym := show Hid (¬ y = m) from hym
        rw [show (!decide (y = m)) = true from by rw [decide_eq_false hym]; rfl]
        clear hym
        obtain ⟨g0, Hg0⟩ : ∃ e, Hid (pp = e + 1) := ⟨pp - 1, by show _ = _; exact (Nat.sub_add_cancel (by decide)).symm⟩
        obtain ⟨g1, Hg1⟩ : ∃ e, Hid (g0 / 2 = e) := ⟨_, rfl⟩
        obtain ⟨g2, Hg2⟩ : ∃ e, Hid (g1 / 2 = e) := ⟨_, rfl⟩
        have hppR : pp < R256 := by decide
        have hg0 : g0 < R256 := by have := Hg0.out; omega
        have hg1 : g1 < R256 := by have := Hg1.out; omega
        have hg2 : g2 < R256 := by have := Hg2.out; omega
        have hfiR : fi < R256 := Nat.lt_trans fi_lt hppR
        have Hfi : Hid (2 ^ g2 % pp = fi) := by
          show _ = _
          rw [fi_pow]
          have : (pp - 1) / 4 = g2 := by have h0 := Hg0.out; have h1 := Hg1.out; have h2 := Hg2.out; omega
          rw [this]
        obtain ⟨x, Hx⟩ : ∃ x, Hid (r * fi % pp = x) := ⟨_, rfl⟩
        have hx : x < pp := by rw [← Hx.out]; exact Nat.mod_lt _ pp_pos
        have hxR : x < R256 := Nat.lt_trans hx hppR
        obtain ⟨z, Hz⟩ : ∃ z, Hid (x * x % pp = z) := ⟨_, rfl⟩
        have hzR : z < R256 := by rw [← Hz.out]; exact lt_of_mod
        have heq2 := num_eq z m hzR hm
        have Hyes : z = m → Hid (rootV a = .tuple #[.agg (numA (evenOf x)), .bool true]) := fun h => rootV_second Hra.out Hy.out Hm.out Hym.out Hx.out Hz.out h
        have Hno : ¬ z = m → Hid (rootV a = .tuple #[.agg (numA 0), .bool false]) := fun h => rootV_none Hra.out Hy.out Hm.out Hym.out Hx.out Hz.out h
        clear heq
        go_wp2_with fail
        refine (P_any wp).mono ?_
        rintro e w6 ⟨rfl, hB6⟩
        have hK6 := hKp.below hB6
        go_wp2_with fail
        rw [show (#[.int .u64 1, .int .u64 0, .int .u64 0, .int .u64 0] : Array Value) = numA 1 from (numA_word 1 (by decide)).symm]
        refine (sub_big hppR (by decide) Hg0.out w6).mono ?_
        rintro e w7 ⟨rfl, hB7⟩
        have hK7 := hK6.below hB7
        have hK8 := hK7.alloc (numA g0) 35
        have ne7 := fun p hp => Nat.ne_of_lt (hK7.1 p hp).lt
        go_upto_region 6 with (refine wpList_store_new (by rfl) 35 (.tmp 7) (.tmp 32) (by rfl) _ (numA g0) (by rfl) (by rfl) (numA_info g0) (lit4_size _ _ _ _ _) (numA_one g0) (by rfl) ?_)
        generalize w7.alloc (.cells (numA g0) 35) = W8 at *
        generalize w7.heap.size = b7 at *
        have n3 : b6 ≠ b7 := ne7 (b6, numA r, 35) (by simp)
        have hK9 : Kp [(b6, numA r, 35), (b7, numA g0, 35), (bR, numA 0, 35), (bA, numA m, 35)] w W8 := hK8.sub (by simp)
        clear hK6 hK7 hK8 ne7
        refine wp_region_vals 55 (by kernel_rfl) (by kernel_rfl) (by rfl) (valY r g0 g1 g2 x) (fun L => Kp [(b6, if L 7 = true then numA x else numA r, 35), (b7, numA g0, 35), (bR, numA 0, 35), (bA, numA m, 35)] w) hK9.drew ?_ ?_
        · intro L ac wc i o hF hLi ho hd K hK
          rcases i with _ | _ | _ | _ | _ | _ | _ | _ | i
          · have ho' := ho
            obtain rfl := Option.some.inj ho
            have f6 : ac.tmps.getD 6 undef = .pointer (some ⟨b6, 0, none⟩) := slotv hF 0 hLi 6 (by kernel_rfl)
            refine step_do ho' (wanted_free rfl) ?_
            have hn7 := notyet hF 0 hLi 7 rfl (by kernel_rfl)
            have hj := hF.j
            rw [hn7] at hj
            exact wp_load_own 35 (.tmp 6) rfl b6 f6 (numA r) _ 35 (hj.at b6 (numA r) 35 (by simp)) Tryd.underlying35 rfl (numA_info r) (hK _ _ (.inr rfl) hF.j)
          · have ho' := ho
            obtain rfl := Option.some.inj ho
            refine step_do ho' (wanted_free rfl) ?_
            unfold Oper.wp
            go_simp
            exact hK _ _ (.inr (by show _ = Value.agg (numA 2); rw [numA_word 2 (by decide)]; rfl)) hF.j
          · have ho' := ho
            obtain rfl := Option.some.inj ho
            have f7 : ac.tmps.getD 7 undef = .pointer (some ⟨b7, 0, none⟩) := slotv hF 2 hLi 7 (by kernel_rfl)
            refine step_do ho' (wanted_free rfl) ?_
            exact wp_load_own 35 (.tmp 7) rfl b7 f7 (numA g0) _ 35 (hF.j.at b7 (numA g0) 35 (by simp)) Tryd.underlying35 rfl (numA_info g0) (hK _ _ (.inr rfl) hF.j)
          · have ho' := ho
            obtain rfl := Option.some.inj ho
            have f36 : ac.tmps.getD 36 undef = .agg (numA g0) := valv hF hd 2 rfl rfl (by kernel_rfl)
            refine step_do ho' (wanted_free rfl) ?_
            unfold Oper.wp
            go_simp
            refine (half_at hg0 Hg1.out _).mono ?_
            rintro e w' ⟨rfl, hB⟩
            exact hK _ _ (.inr rfl) (hF.j.below hB)
          · have ho' := ho
            obtain rfl := Option.some.inj ho
            have f37 : ac.tmps.getD 37 undef = .agg (numA g1) := valv hF hd 3 rfl rfl (by kernel_rfl)
            refine step_do ho' (wanted_free rfl) ?_
            unfold Oper.wp
            go_simp
            refine (half_at hg1 Hg2.out _).mono ?_
            rintro e w' ⟨rfl, hB⟩
            exact hK _ _ (.inr rfl) (hF.j.below hB)
          · have ho' := ho
            obtain rfl := Option.some.inj ho
            have f35 : ac.tmps.getD 35 undef = .agg (numA 2) := valv hF hd 1 rfl rfl (by kernel_rfl)
            have f38 : ac.tmps.getD 38 undef = .agg (numA g2) := valv hF hd 4 rfl rfl (by kernel_rfl)
            refine step_do ho' (wanted_free rfl) ?_
            unfold Oper.wp
            go_simp
            refine (pow_at (by decide) hg2 Hfi.out _).mono ?_
            rintro e w' ⟨rfl, hB⟩
            exact hK _ _ (.inr rfl) (hF.j.below hB)
          · have ho' := ho
            obtain rfl := Option.some.inj ho
            have f34 : ac.tmps.getD 34 undef = .agg (numA r) := valv hF hd 0 rfl rfl (by kernel_rfl)
            have f39 : ac.tmps.getD 39 undef = .agg (numA fi) := valv hF hd 5 rfl rfl (by kernel_rfl)
            refine step_do ho' (wanted_free rfl) ?_
            unfold Oper.wp
            go_simp
            refine (mul_at hrR hfiR Hx.out _).mono ?_
            rintro e w' ⟨rfl, hB⟩
            exact hK _ _ (.inr rfl) (hF.j.below hB)
          · have ho' := ho
            obtain rfl := Option.some.inj ho
            have f6 : ac.tmps.getD 6 undef = .pointer (some ⟨b6, 0, none⟩) := slotv hF 7 hLi 6 (by kernel_rfl)
            have f40 : ac.tmps.getD 40 undef = .agg (numA x) := valv hF hd 6 rfl rfl (by kernel_rfl)
            refine step_do ho' (wanted_free rfl) ?_
            have hj := hF.j
            rw [hLi] at hj
            refine wp_store_own 35 (.tmp 6) (.tmp 40) rfl b6 (numA x) f6 f40 (hj.at b6 (numA r) 35 (by simp)) (numA_sizes x r) (numA_info x) (numA_one x) rfl ?_
            exact hK undef _ (.inl rfl) (Kp.set hj (by simp; omega) hle6 (numA_sizes x r))
          · cases ho
        · intro L wa hL hKa
          have h7 := hL 7 (by decide)
          rw [h7] at hKa
          have hKa : Kp [(b6, numA x, 35), (bR, numA 0, 35), (bA, numA m, 35)] w wa := Kp.sub hKa (by simp)
          simp only [putAll, valY, Act.put, List.setIfInBounds_toArray, List.set_cons_succ, List.set_cons_zero]
          clear hL h7
          go_upto_region 7 with fail
          refine wp_region_vals 55 (by kernel_rfl) (by kernel_rfl) (by rfl) (valX x z m) (fun _ => Kp [(b6, numA x, 35), (bR, numA 0, 35), (bA, numA m, 35)] w) hKa.drew ?_ ?_
          · intro L ac wc i o hF hLi ho hd K hK
            rcases i with _ | _ | _ | _ | _ | i
            · have ho' := ho
              obtain rfl := Option.some.inj ho
              have f6 : ac.tmps.getD 6 undef = .pointer (some ⟨b6, 0, none⟩) := slotv hF 0 hLi 6 (by kernel_rfl)
              refine step_do ho' (wanted_free rfl) ?_
              exact wp_load_own 35 (.tmp 6) rfl b6 f6 (numA x) _ 35 (hF.j.at b6 (numA x) 35 (by simp)) Tryd.underlying35 rfl (numA_info x) (hK _ _ (.inr rfl) hF.j)
            · have ho' := ho
              obtain rfl := Option.some.inj ho
              have f6 : ac.tmps.getD 6 undef = .pointer (some ⟨b6, 0, none⟩) := slotv hF 1 hLi 6 (by kernel_rfl)
              refine step_do ho' (wanted_free rfl) ?_
              exact wp_load_own 35 (.tmp 6) rfl b6 f6 (numA x) _ 35 (hF.j.at b6 (numA x) 35 (by simp)) Tryd.underlying35 rfl (numA_info x) (hK _ _ (.inr rfl) hF.j)
            · have ho' := ho
              obtain rfl := Option.some.inj ho
              have f41 : ac.tmps.getD 41 undef = .agg (numA x) := valv hF hd 0 rfl rfl (by kernel_rfl)
              have f42 : ac.tmps.getD 42 undef = .agg (numA x) := valv hF hd 1 rfl rfl (by kernel_rfl)
              refine step_do ho' (wanted_free rfl) ?_
              unfold Oper.wp
              go_simp
              refine (mul_at hxR hxR Hz.out _).mono ?_
              rintro e w' ⟨rfl, hB⟩
              exact hK _ _ (.inr rfl) (hF.j.below hB)
            · have ho' := ho
              obtain rfl := Option.some.inj ho
              have f1 : ac.tmps.getD 1 undef = .pointer (some ⟨bA, 0, none⟩) := slotv hF 3 hLi 1 (by kernel_rfl)
              refine step_do ho' (wanted_free rfl) ?_
              exact wp_load_own 35 (.tmp 1) rfl bA f1 (numA m) _ 35 (hF.j.at bA (numA m) 35 (by simp)) Tryd.underlying35 rfl (numA_info m) (hK _ _ (.inr rfl) hF.j)
            · have ho' := ho
              obtain rfl := Option.some.inj ho
              have f43 : ac.tmps.getD 43 undef = .agg (numA z) := valv hF hd 2 rfl rfl (by kernel_rfl)
              have f44 : ac.tmps.getD 44 undef = .agg (numA m) := valv hF hd 3 rfl rfl (by kernel_rfl)
              refine step_do ho' (wanted_free rfl) ?_
              unfold Oper.wp
              go_simp
              exact hK _ _ (.inr rfl) hF.j
            · cases ho
          · intro L wz hL hKz
            simp only [putAll, valX, Act.put, List.setIfInBounds_toArray, List.set_cons_succ, List.set_cons_zero]
            by_cases hym : z = m
            · have Hres := Hyes hym
              have Hym := show Hid _ from hym
              clear hym
              rw [show (!decide (z = m)) = false from by rw [decide_eq_true Hym.out]; rfl]
              have cX := (hKz.at b6 (numA x) 35 (by simp)).cell (numA_at x 0 (by omega))
              have hodd := odd_word x
              have hx2 : x % 2 = 0 ∨ x % 2 = 1 := by omega
              rcases hx2 with hx2 | hx2
              · rw [hx2] at hodd
                have Hev : Hid (evenOf x = x) := by show _ = _; unfold evenOf; rw [if_neg (by omega)]
                generalize dig x 0 = d0 at *
                go_upto_region 11 with fail
                go_wp2_with (first
                  | refine wpList_load_own (by rfl) 35 (.tmp 6) (by rfl) b6 (by rfl) (numA x) _ (hKz.at b6 (numA x) 35 (by simp)) Tryd.underlying35 (by rfl) (numA_info x) ?_
                  | refine wpList_store_own (by rfl) 35 (.tmp 2) (.tmp 54) (by rfl) bR 0 (numA x) (by rfl) (by rfl) (hKz.at bR (numA 0) 35 (by simp)) (Nat.le_refl _) (numA_info x) (numA_one x) (by rfl) ?_)
                refine bodyPost_ret (results_own_tmp Tryd.results46 _ _ bR (numA x) _ (by rfl) (own_setCells (hKz.at bR (numA 0) 35 (by simp)) (numA_sizes x 0)) Tryd.underlying35 rfl (numA_info x)) rfl ⟨?_, Below.setCells _ _ _ _ hle hKz.2⟩
                rw [Hres.out, Hev.out]; rfl
              · rw [hx2] at hodd
                have Hev : Hid (evenOf x = pp - x) := by show _ = _; unfold evenOf; rw [if_pos hx2]
                generalize dig x 0 = d0 at *
                go_upto_region 10 with fail
                go_wp2_with (refine wpList_load_own (by rfl) 35 (.tmp 6) (by rfl) b6 (by rfl) (numA x) _ (hKz.at b6 (numA x) 35 (by simp)) Tryd.underlying35 (by rfl) (numA_info x) ?_)
                rw [show (#[.int .u64 0, .int .u64 0, .int .u64 0, .int .u64 0] : Array Value) = numA 0 from rfl]
                refine (fsub_any 0 x (by decide) hxR wz).mono ?_
                rintro e w5 ⟨rfl, hB5⟩
                have hK5 := hKz.below hB5
                obtain ⟨z, Hz⟩ : ∃ z, Hid (pp - x = z) := ⟨_, rfl⟩
                rw [show (0 % pp + pp - x % pp) % pp = z from by rw [← Hz.out]; exact neg_of x hx hx2]
                have hK6 := hK5.set (A' := numA z) (by simp; omega) hle6 (numA_sizes z x)
                go_upto_region 11 with (refine wpList_store_own (by rfl) 35 (.tmp 6) (.tmp 53) (by rfl) b6 0 (numA z) (by rfl) (by rfl) (hK5.at b6 (numA x) 35 (by simp)) (Nat.le_refl _) (numA_info z) (numA_one z) (by rfl) ?_)
                generalize w5.setCells b6 0 (numA z).toList = W6 at *
                go_wp2_with (first
                  | refine wpList_load_own (by rfl) 35 (.tmp 6) (by rfl) b6 (by rfl) (numA z) _ (hK6.at b6 (numA z) 35 (by simp)) Tryd.underlying35 (by rfl) (numA_info z) ?_
                  | refine wpList_store_own (by rfl) 35 (.tmp 2) (.tmp 54) (by rfl) bR 0 (numA z) (by rfl) (by rfl) (hK6.at bR (numA 0) 35 (by simp)) (Nat.le_refl _) (numA_info z) (numA_one z) (by rfl) ?_)
                refine bodyPost_ret (results_own_tmp Tryd.results46 _ _ bR (numA z) _ (by rfl) (own_setCells (hK6.at bR (numA 0) 35 (by simp)) (numA_sizes z 0)) Tryd.underlying35 rfl (numA_info z)) rfl ⟨?_, Below.setCells _ _ _ _ hle hK6.2⟩
                rw [Hres.out, Hev.out, Hz.out]; rfl
            · have Hres := Hno hym
              have Hym := show Hid (¬ z = m) from hym
              clear hym
              rw [show (!decide (z = m)) = true from by rw [decide_eq_false Hym.out]; rfl]
              go_upto_region 8 with fail
              go_wp2_with (refine wpList_store_own (by rfl) 35 (.tmp 2) (.tmp 46) (by rfl) bR 0 (numA 0) (by rfl) (by rfl) (hKz.at bR (numA 0) 35 (by simp)) (Nat.le_refl _) (numA_info 0) (numA_one 0) (by rfl) ?_)
              refine bodyPost_ret (results_own_tmp Tryd.results46 _ _ bR (numA 0) _ (by rfl) (own_setCells (hKz.at bR (numA 0) 35 (by simp)) (numA_sizes 0 0)) Tryd.underlying35 rfl (numA_info 0)) rfl ⟨?_, Below.setCells _ _ _ _ hle hKz.2⟩
              rw [Hres.out]; rfl
end Go.Proofs.YtfkcphbbabaefaaDoor
