/- Of the texts SL4, SE4: what the card of this claim reaches. -/
import Derived.Test.YtfkcphbbabaefaaGreatDoorXC52
import Derived.Test.YtfkcphbbabaefaaGreatDoorXC35
namespace Go.Proofs.YtfkcphbbabaefaaGreatDoor
open Go Go.RowKit
def factEx4 (n y R S : Nat) (ja : Option Addr) (jc : Nat) (m : List Int) : Nat → Value → Prop
  | 0, vq => vq = .agg (B32 (bdig n))
  | 1, vq => vq = .agg (B32 (bdig y))
  | 2, vq => vq = .agg (B32 (bdig n))
  | 3, vq => vq = .slice ja m.length jc
  | 4, vq => vq = .agg (B64 (bdig (two R S)))
  | 5, vq => ∃ g, vq = .pointer (some ⟨g, 0, none⟩)
  | 6, vq => ∃ g, vq = .pointer (some ⟨g, 0, none⟩)
  | _, _ => True
def valEx5 (n y R S : Nat) (ta ja : Option Addr) (tc jc : Nat) (m : List Int) : Nat → Value
  | 0 => .agg (B32 (bdig y))
  | 1 => .agg (B32 (bdig n))
  | 2 => .agg (B32 (bdig y))
  | 3 => .bool true
  | 4 => .bool true
  | 5 => .agg (B64 (bdig (two R S)))
  | 6 => .agg (B32 (bdig n))
  | 7 => .slice ta m.length tc
  | 8 => .agg (B64 (bdig (two R S)))
  | 9 => .bool true
  | 10 => .bool true
  | 11 => .bool true
  | 12 => .agg (B32 (bdig y))
  | 13 => .slice ja m.length jc
  | 14 => .agg (B64 (bdig (two R S)))
  | 15 => .bool true
  | 16 => .bool true
  | 17 => .bool true
  | 18 => .slice ja m.length jc
  | 19 => .slice ta m.length tc
  | 20 => .bool true
  | 21 => .bool true
  | 22 => .bool true
  | 23 => .bool true
  | 24 => .bool true
  | 25 => .bool true
  | _ => undef
set_option maxRecDepth 100000 in
set_option maxHeartbeats 2000000 in
theorem exact_long {n : Nat} {ta : Option Addr} {tc : Nat} {m : List Int} (hn : 200 < m.length) (w : World) : Calls Tryz.prog 3 #[.agg (B32 (bdig n)), .slice ta m.length tc] w fun x w' => x = .returned (.bool true) ∧ Below w.heap.size w w' := by
  have hki : (200 : Int) < (m.length : Int) := by omega
  go_enter Tryz.func3, Tryz.ntmps3
  go_wp2
  go_ret
  exact ⟨rfl, (Below.refl _ _).alloc (Nat.le_refl _) _⟩
set_option maxRecDepth 100000 in
set_option maxHeartbeats 2000000 in
theorem exact_short {T : World → Prop} (F : Low T) {n : Nat} {ta : Option Addr} {tc : Nat} {m : List Int} (hn : m.length ≤ 200) (w : World) (hT : T w) (hm : Txt w ta tc m) : Calls Tryz.prog 3 #[.agg (B32 (bdig n)), .slice ta m.length tc] w fun x w' => x = .returned (.bool true) ∧ Below w.heap.size w w' := by
  have hz := (zero_of_info zeroB32).1
  have hz64 := (zero_of_info zeroB64).1
  have hki : ¬ (200 : Int) < (m.length : Int) := by omega
  have hki' : decide ((200 : Int) < (m.length : Int)) = false := decide_eq_false hki
  have hl1 : Hid (m.length ≤ 1000) := by show _ ≤ _; omega
  obtain ⟨y, Hy⟩ : ∃ y, Hid (pubOf n = y) := ⟨_, rfl⟩
  obtain ⟨R, HR⟩ : ∃ R, Hid (rOf n m = R) := ⟨_, rfl⟩
  obtain ⟨S, HS⟩ : ∃ S, Hid (sOf n m = S) := ⟨_, rfl⟩
  have lR : Hid (R < R256) := by show _ < _; rw [← HR.out]; exact rOf_lt n m
  have ly : Hid (y < R256) := by show _ < _; rw [← Hy.out]; exact pubOf_lt n
  have lS : Hid (S < R256) := by show _ < _; rw [← HS.out]; exact sOf_lt2 n m
  have hpub : Hid (∀ w, T w → Calls Tryz.prog 6 #[.agg (B32 (bdig n))] w fun x w' => x = .returned (.agg (B32 (bdig y))) ∧ Below w.heap.size w w') := fun w hT => by rw [← Hy.out]; exact public_is F n w hT
  have hppub : Hid (∀ w, Calls Tryz.prog 8 #[.agg (B32 (bdig n))] w fun x w' => x = .returned (.agg (B32 (bdig y))) ∧ Below w.heap.size w w') := fun w => by rw [← Hy.out]; exact ppublic_is n w
  have hsig : Hid (∀ a c w, T w → Txt w a c m → Calls Tryz.prog 7 #[.agg (B32 (bdig n)), .slice a m.length c] w fun x w' => x = .returned (.agg (B64 (bdig (two R S)))) ∧ Below w.heap.size w w') := fun a c w hT hm => by rw [← HR.out, ← HS.out]; exact sign_is F n hl1.out w hT hm
  have hpsig : Hid (∀ a c w, Txt w a c m → Calls Tryz.prog 9 #[.agg (B32 (bdig n)), .slice a m.length c] w fun x w' => x = .returned (.agg (B64 (bdig (two R S)))) ∧ Below w.heap.size w w') := fun a c w hm => by rw [← HR.out, ← HS.out]; exact psign_is n hl1.out w hm
  have hver : Hid (∀ a c w, T w → Txt w a c m → Calls Tryz.prog 10 #[.agg (B32 (bdig y)), .slice a m.length c, .agg (B64 (bdig (two R S)))] w fun x w' => x = .returned (.bool true) ∧ Below w.heap.size w w') := fun a c w hT hm => by
    have h := verify_is F ly.out lR.out lS.out hl1.out w hT hm
    rw [← Hy.out, ← HR.out, ← HS.out, sign_signed] at h
    rw [← Hy.out, ← HR.out, ← HS.out]; exact h
  have same_y := B32_same y ly.out
  have same_s := B64_same (two R S) (two_lt lR.out lS.out)
  go_enter Tryz.func3, Tryz.ntmps3
  go_upto_region 1 with fail
  have hK := (Kp.nil w).alloc (B32 (bdig n)) 22
  generalize w.alloc (.cells (B32 (bdig n)) 22) = W at *
  obtain ⟨bA, HbA⟩ : ∃ b, Hid (w.heap.size = b) := ⟨_, rfl⟩
  have le_bA : Hid (w.heap.size ≤ bA) := by show _ ≤ _; have := HbA.out; omega
  rw [HbA.out] at hK ⊢
  go_upto_region 3 with fail
  go_wp2_with fail
  have lt_bA := (hK.at bA (B32 (bdig n)) 22 (.head _)).lt
  refine (twin_is (hm.below hK.2) hl1.out (hK.at bA (B32 (bdig n)) 22 (.head _))).mono ?_
  rintro e V1 ⟨ja, jc, bX, X, tX, rfl, hO, oX, hap, bw⟩
  have hK := (hK.below bw).cons oX
  clear bw oX
  replace hO := show Hid _ from hO
  have hTx : Hid (∀ W, Own W bX X tX → Txt W ja jc m) := fun W h => txt_of_own (hO.out W h) hm.1.2.2.2.1
  clear hap lt_bA
  go_upto_region 4 with fail
  refine wp_region_told 43 (by kernel_rfl) (by kernel_rfl) (by rfl) (factEx4 n y R S ja jc m) (fun L vs => MkN 2 [(bX, X, tX), (bA, B32 (bdig n), 22)] w (pick2 (B32 fun _ => 0) (B64 fun _ => 0)) (pick2 (B32 (bdig y)) (B64 (bdig (two R S)))) (pick2 (22) (26)) (fun i => L (5 + i)) (fun i => L (7 + i)) (fun i => vs (5 + i))) (fun _ => MkN.drew hK (fun _ _ => rfl)) ?_ ?_
  · intro L vs ac wc i o hF hLi ho hd K hK
    rcases i with _ | _ | _ | _ | _ | _ | _ | _ | _ | i
    · have ho' := ho
      obtain rfl := Option.some.inj ho
      have f2 : ac.tmps.getD 2 undef = .pointer (some ⟨bA, 0, none⟩) := slott hF 0 hLi 2 (by kernel_rfl)
      refine step_do ho' (wanted_free rfl) ?_
      exact wp_load_own 22 (.tmp 2) rfl bA f2 (B32 (bdig n)) _ 22 (hF.j.1.at bA (B32 (bdig n)) 22 (.tail _ (.head _))) Tryz.underlying22 rfl (B32_info _) (hK _ _ (.inr rfl) (hF.j.congr (fun i hi => if_off (by decide) hi) (fun i hi => if_off (by decide) hi) (fun i hi => if_off (by decide) hi)))
    · have ho' := ho
      obtain rfl := Option.some.inj ho
      have f13 : ac.tmps.getD 13 undef = .agg (B32 (bdig n)) := (factt hF hd 0 rfl rfl (by kernel_rfl)).1.trans (factt hF hd 0 rfl rfl (by kernel_rfl)).2
      refine step_do ho' (wanted_free rfl) ?_
      unfold Oper.wp
      go_simp
      refine (hpub.out _ (F.keep _ _ hT hF.j.1.2)).mono ?_
      rintro e w' ⟨rfl, hB⟩
      exact hK _ _ (.inr rfl) (((hF.j.congr (fun i hi => if_off (by decide) hi) (fun i hi => if_off (by decide) hi) (fun i hi => if_off (by decide) hi))).below hB)
    · have ho' := ho
      obtain rfl := Option.some.inj ho
      have f2 : ac.tmps.getD 2 undef = .pointer (some ⟨bA, 0, none⟩) := slott hF 2 hLi 2 (by kernel_rfl)
      refine step_do ho' (wanted_free rfl) ?_
      exact wp_load_own 22 (.tmp 2) rfl bA f2 (B32 (bdig n)) _ 22 (hF.j.1.at bA (B32 (bdig n)) 22 (.tail _ (.head _))) Tryz.underlying22 rfl (B32_info _) (hK _ _ (.inr rfl) (hF.j.congr (fun i hi => if_off (by decide) hi) (fun i hi => if_off (by decide) hi) (fun i hi => if_off (by decide) hi)))
    · have ho' := ho
      obtain rfl := Option.some.inj ho
      have f5 : ac.tmps.getD 5 undef = .slice ja m.length jc := slott hF 3 hLi 5 (by kernel_rfl)
      refine step_do ho' (wanted_free rfl) ?_
      unfold Oper.wp
      go_simp
      exact hK _ _ (.inr rfl) (hF.j.congr (fun i hi => if_off (by decide) hi) (fun i hi => if_off (by decide) hi) (fun i hi => if_off (by decide) hi))
    · have ho' := ho
      obtain rfl := Option.some.inj ho
      have f15 : ac.tmps.getD 15 undef = .agg (B32 (bdig n)) := (factt hF hd 2 rfl rfl (by kernel_rfl)).1.trans (factt hF hd 2 rfl rfl (by kernel_rfl)).2
      have f16 : ac.tmps.getD 16 undef = .slice ja m.length jc := (factt hF hd 3 rfl rfl (by kernel_rfl)).1.trans (factt hF hd 3 rfl rfl (by kernel_rfl)).2
      refine step_do ho' (wanted_free rfl) ?_
      unfold Oper.wp
      go_simp
      refine (hsig.out _ _ _ (F.keep _ _ hT hF.j.1.2) (hTx.out _ (hF.j.1.at bX X tX (.head _)))).mono ?_
      rintro e w' ⟨rfl, hB⟩
      exact hK _ _ (.inr rfl) (((hF.j.congr (fun i hi => if_off (by decide) hi) (fun i hi => if_off (by decide) hi) (fun i hi => if_off (by decide) hi))).below hB)
    · have ho' := ho
      obtain rfl := Option.some.inj ho
      refine step_do ho' (wanted_free rfl) ?_
      have hs := notyett hF 5 hLi 7 rfl (by kernel_rfl)
      unfold Oper.wp
      go_simp
      exact hK _ _ (.inr ⟨_, rfl⟩) (hF.j.alloc 0 (fun i _ hne => if_oth (k := 0) rfl hne) (fun i hi => if_off (by decide) hi) (fun i _ hne => if_oth (k := 0) rfl hne) rfl hs)
    · have ho' := ho
      obtain rfl := Option.some.inj ho
      refine step_do ho' (wanted_free rfl) ?_
      have hs := notyett hF 6 hLi 8 rfl (by kernel_rfl)
      unfold Oper.wp
      go_simp
      exact hK _ _ (.inr ⟨_, rfl⟩) (hF.j.alloc 1 (fun i _ hne => if_oth (k := 1) rfl hne) (fun i hi => if_off (by decide) hi) (fun i _ hne => if_oth (k := 1) rfl hne) rfl hs)
    · have ho' := ho
      obtain rfl := Option.some.inj ho
      have f14 : ac.tmps.getD 14 undef = .agg (B32 (bdig y)) := (factt hF hd 1 rfl rfl (by kernel_rfl)).1.trans (factt hF hd 1 rfl rfl (by kernel_rfl)).2
      refine step_do ho' (wanted_free rfl) ?_
      obtain ⟨fg, gq, hg⟩ := factt hF hd 5 rfl rfl (by kernel_rfl)
      have hm_ := dep hd 5 (by kernel_rfl)
      have hj := hF.j
      rw [hg] at fg
      have hj2 := hj.at (k := 0) (by decide) hm_ hg hLi
      refine wp_store_own 22 (.tmp 6) (.tmp 14) rfl gq (B32 (bdig y)) fg f14 hj2.2.2 (B32_sizes _ _) (B32_info _) (B32_one _) rfl ?_
      exact hK undef _ (.inl rfl) (hj.storeA (k := 0) (A := B32 (bdig y)) rfl (by decide) hm_ hg hLi (B32_sizes _ _) (fun i hi => if_off (by decide) hi) (fun i _ hne => if_oth (k := 0) rfl hne) (fun i hi => if_off (by decide) hi) rfl)
    · have ho' := ho
      obtain rfl := Option.some.inj ho
      have f17 : ac.tmps.getD 17 undef = .agg (B64 (bdig (two R S))) := (factt hF hd 4 rfl rfl (by kernel_rfl)).1.trans (factt hF hd 4 rfl rfl (by kernel_rfl)).2
      refine step_do ho' (wanted_free rfl) ?_
      obtain ⟨fg, gq, hg⟩ := factt hF hd 6 rfl rfl (by kernel_rfl)
      have hm_ := dep hd 6 (by kernel_rfl)
      have hj := hF.j
      rw [hg] at fg
      have hj2 := hj.at (k := 1) (by decide) hm_ hg hLi
      refine wp_store_own 26 (.tmp 7) (.tmp 17) rfl gq (B64 (bdig (two R S))) fg f17 hj2.2.2 (B64_sizes _ _) (B64_info _) (B64_one _) rfl ?_
      exact hK undef _ (.inl rfl) (hj.storeA (k := 1) (A := B64 (bdig (two R S))) rfl (by decide) hm_ hg hLi (B64_sizes _ _) (fun i hi => if_off (by decide) hi) (fun i _ hne => if_oth (k := 1) rfl hne) (fun i hi => if_off (by decide) hi) rfl)
    · cases ho
  intro L vs V2 hL hJ hf
  obtain ⟨g3, hgg3⟩ := hf 5 _ _ rfl rfl
  obtain ⟨le0, apg3, owng3⟩ := hJ.gotA (k := 0) (A := B32 (bdig y)) rfl (by decide) (hL 5 (by decide)) hgg3 (hL 7 (by decide))
  have le_g3 := show Hid _ from le0
  clear le0
  obtain ⟨g4, hgg4⟩ := hf 6 _ _ rfl rfl
  obtain ⟨le0, apg4, owng4⟩ := hJ.gotA (k := 1) (A := B64 (bdig (two R S))) rfl (by decide) (hL 6 (by decide)) hgg4 (hL 8 (by decide))
  have le_g4 := show Hid _ from le0
  clear le0
  have ne_g3_g4 : Hid (g3 ≠ g4) := hJ.apart (i := 0) (j := 1) (by decide) (by decide) (by decide) (hL 5 (by decide)) (hL 6 (by decide)) hgg3 hgg4
  have ne_bX_g3 : Hid (bX ≠ g3) := apg3 (bX, X, tX) (.head _)
  have ne_bA_g3 : Hid (bA ≠ g3) := apg3 (bA, B32 (bdig n), 22) (.tail _ (.head _))
  have ne_bX_g4 : Hid (bX ≠ g4) := apg4 (bX, X, tX) (.head _)
  have ne_bA_g4 : Hid (bA ≠ g4) := apg4 (bA, B32 (bdig n), 22) (.tail _ (.head _))
  have hK : Kp [(g4, B64 (bdig (two R S)), 26), (g3, B32 (bdig y), 22), (bX, X, tX), (bA, B32 (bdig n), 22)] w V2 := ((hJ.1.cons owng3).cons owng4)
  have e0 : vs 0 = _ := hf 0 _ _ rfl rfl
  have e1 : vs 1 = _ := hf 1 _ _ rfl rfl
  have e2 : vs 2 = _ := hf 2 _ _ rfl rfl
  have e3 : vs 3 = _ := hf 3 _ _ rfl rfl
  have e4 : vs 4 = _ := hf 4 _ _ rfl rfl
  simp only [putAll, Nat.zero_add, Nat.reduceAdd, e0, e1, e2, e3, e4, hgg3, hgg4, Act.put, List.setIfInBounds_toArray, List.set_cons_succ, List.set_cons_zero]
  clear hJ hf hL e0 e1 e2 e3 e4 hgg3 hgg4 apg3 apg4 owng3 owng4
  go_upto_region 5 with fail
  refine wp_region_vals 43 (by kernel_rfl) (by kernel_rfl) (by rfl) (valEx5 n y R S ta ja tc jc m) (fun _ => Kp [(g4, B64 (bdig (two R S)), 26), (g3, B32 (bdig y), 22), (bX, X, tX), (bA, B32 (bdig n), 22)] w) hK.drew ?_ ?_
  · intro L ac wc i o hF hLi ho hd K hK
    rcases i with _ | _ | _ | _ | _ | _ | _ | _ | _ | _ | _ | _ | _ | _ | _ | _ | _ | _ | _ | _ | _ | _ | _ | _ | _ | _ | i
    · have ho' := ho
      obtain rfl := Option.some.inj ho
      have f6 : ac.tmps.getD 6 undef = .pointer (some ⟨g3, 0, none⟩) := slotv hF 0 hLi 6 (by kernel_rfl)
      refine step_do ho' (wanted_free rfl) ?_
      exact wp_load_own 22 (.tmp 6) rfl g3 f6 (B32 (bdig y)) _ 22 (hF.j.at g3 (B32 (bdig y)) 22 (.tail _ (.head _))) Tryz.underlying22 rfl (B32_info _) (hK _ _ (.inr rfl) hF.j)
    · have ho' := ho
      obtain rfl := Option.some.inj ho
      have f2 : ac.tmps.getD 2 undef = .pointer (some ⟨bA, 0, none⟩) := slotv hF 1 hLi 2 (by kernel_rfl)
      refine step_do ho' (wanted_free rfl) ?_
      exact wp_load_own 22 (.tmp 2) rfl bA f2 (B32 (bdig n)) _ 22 (hF.j.at bA (B32 (bdig n)) 22 (.tail _ (.tail _ (.tail _ (.head _))))) Tryz.underlying22 rfl (B32_info _) (hK _ _ (.inr rfl) hF.j)
    · have ho' := ho
      obtain rfl := Option.some.inj ho
      have f19 : ac.tmps.getD 19 undef = .agg (B32 (bdig n)) := valv hF hd 1 rfl rfl (by kernel_rfl)
      refine step_do ho' (wanted_free rfl) ?_
      unfold Oper.wp
      go_simp
      refine (hppub.out _).mono ?_
      rintro e w' ⟨rfl, hB⟩
      exact hK _ _ (.inr rfl) ((hF.j).below hB)
    · have ho' := ho
      obtain rfl := Option.some.inj ho
      have f18 : ac.tmps.getD 18 undef = .agg (B32 (bdig y)) := valv hF hd 0 rfl rfl (by kernel_rfl)
      have f20 : ac.tmps.getD 20 undef = .agg (B32 (bdig y)) := valv hF hd 2 rfl rfl (by kernel_rfl)
      refine step_do ho' (wanted_free rfl) ?_
      unfold Oper.wp
      go_simp
      exact hK _ _ (.inr rfl) hF.j
    · have ho' := ho
      obtain rfl := Option.some.inj ho
      have f21 : ac.tmps.getD 21 undef = .bool true := valv hF hd 3 rfl rfl (by kernel_rfl)
      refine step_do ho' (wanted_free rfl) ?_
      unfold Oper.wp
      go_simp
      exact hK _ _ (.inr rfl) hF.j
    · have ho' := ho
      obtain rfl := Option.some.inj ho
      have f7 : ac.tmps.getD 7 undef = .pointer (some ⟨g4, 0, none⟩) := slotv hF 5 hLi 7 (by kernel_rfl)
      have fg : ac.tmps.getD 22 undef = .bool true := valv hF hd 4 rfl rfl (by kernel_rfl)
      refine step_do ho' (wanted_so (g := 4) rfl rfl rfl fg) ?_
      exact wp_load_own 26 (.tmp 7) rfl g4 f7 (B64 (bdig (two R S))) _ 26 (hF.j.at g4 (B64 (bdig (two R S))) 26 (.head _)) Tryz.underlying26 rfl (B64_info _) (hK _ _ (.inr rfl) hF.j)
    · have ho' := ho
      obtain rfl := Option.some.inj ho
      have f2 : ac.tmps.getD 2 undef = .pointer (some ⟨bA, 0, none⟩) := slotv hF 6 hLi 2 (by kernel_rfl)
      have fg : ac.tmps.getD 22 undef = .bool true := valv hF hd 4 rfl rfl (by kernel_rfl)
      refine step_do ho' (wanted_so (g := 4) rfl rfl rfl fg) ?_
      exact wp_load_own 22 (.tmp 2) rfl bA f2 (B32 (bdig n)) _ 22 (hF.j.at bA (B32 (bdig n)) 22 (.tail _ (.tail _ (.tail _ (.head _))))) Tryz.underlying22 rfl (B32_info _) (hK _ _ (.inr rfl) hF.j)
    · have ho' := ho
      obtain rfl := Option.some.inj ho
      have f1 : ac.tmps.getD 1 undef = .slice ta m.length tc := slotv hF 7 hLi 1 (by kernel_rfl)
      have fg : ac.tmps.getD 22 undef = .bool true := valv hF hd 4 rfl rfl (by kernel_rfl)
      refine step_do ho' (wanted_so (g := 4) rfl rfl rfl fg) ?_
      unfold Oper.wp
      go_simp
      exact hK _ _ (.inr rfl) hF.j
    · have ho' := ho
      obtain rfl := Option.some.inj ho
      have f24 : ac.tmps.getD 24 undef = .agg (B32 (bdig n)) := valv hF hd 6 rfl rfl (by kernel_rfl)
      have f25 : ac.tmps.getD 25 undef = .slice ta m.length tc := valv hF hd 7 rfl rfl (by kernel_rfl)
      have fg : ac.tmps.getD 22 undef = .bool true := valv hF hd 4 rfl rfl (by kernel_rfl)
      refine step_do ho' (wanted_so (g := 4) rfl rfl rfl fg) ?_
      unfold Oper.wp
      go_simp
      refine (hpsig.out _ _ _ (hm.below hF.j.2)).mono ?_
      rintro e w' ⟨rfl, hB⟩
      exact hK _ _ (.inr rfl) ((hF.j).below hB)
    · have ho' := ho
      obtain rfl := Option.some.inj ho
      have f23 : ac.tmps.getD 23 undef = .agg (B64 (bdig (two R S))) := valv hF hd 5 rfl rfl (by kernel_rfl)
      have f26 : ac.tmps.getD 26 undef = .agg (B64 (bdig (two R S))) := valv hF hd 8 rfl rfl (by kernel_rfl)
      have fg : ac.tmps.getD 22 undef = .bool true := valv hF hd 4 rfl rfl (by kernel_rfl)
      refine step_do ho' (wanted_so (g := 4) rfl rfl rfl fg) ?_
      unfold Oper.wp
      go_simp
      exact hK _ _ (.inr rfl) hF.j
    · have ho' := ho
      obtain rfl := Option.some.inj ho
      have f22 : ac.tmps.getD 22 undef = .bool true := valv hF hd 4 rfl rfl (by kernel_rfl)
      have f27 : ac.tmps.getD 27 undef = .bool true := valv hF hd 9 rfl rfl (by kernel_rfl)
      refine step_do ho' (wanted_free rfl) ?_
      unfold Oper.wp
      go_simp
      exact hK _ _ (.inr rfl) hF.j
    · have ho' := ho
      obtain rfl := Option.some.inj ho
      have f28 : ac.tmps.getD 28 undef = .bool true := valv hF hd 10 rfl rfl (by kernel_rfl)
      refine step_do ho' (wanted_free rfl) ?_
      unfold Oper.wp
      go_simp
      exact hK _ _ (.inr rfl) hF.j
    · have ho' := ho
      obtain rfl := Option.some.inj ho
      have f6 : ac.tmps.getD 6 undef = .pointer (some ⟨g3, 0, none⟩) := slotv hF 12 hLi 6 (by kernel_rfl)
      have fg : ac.tmps.getD 29 undef = .bool true := valv hF hd 11 rfl rfl (by kernel_rfl)
      refine step_do ho' (wanted_so (g := 11) rfl rfl rfl fg) ?_
      exact wp_load_own 22 (.tmp 6) rfl g3 f6 (B32 (bdig y)) _ 22 (hF.j.at g3 (B32 (bdig y)) 22 (.tail _ (.head _))) Tryz.underlying22 rfl (B32_info _) (hK _ _ (.inr rfl) hF.j)
    · have ho' := ho
      obtain rfl := Option.some.inj ho
      have f5 : ac.tmps.getD 5 undef = .slice ja m.length jc := slotv hF 13 hLi 5 (by kernel_rfl)
      have fg : ac.tmps.getD 29 undef = .bool true := valv hF hd 11 rfl rfl (by kernel_rfl)
      refine step_do ho' (wanted_so (g := 11) rfl rfl rfl fg) ?_
      unfold Oper.wp
      go_simp
      exact hK _ _ (.inr rfl) hF.j
    · have ho' := ho
      obtain rfl := Option.some.inj ho
      have f7 : ac.tmps.getD 7 undef = .pointer (some ⟨g4, 0, none⟩) := slotv hF 14 hLi 7 (by kernel_rfl)
      have fg : ac.tmps.getD 29 undef = .bool true := valv hF hd 11 rfl rfl (by kernel_rfl)
      refine step_do ho' (wanted_so (g := 11) rfl rfl rfl fg) ?_
      exact wp_load_own 26 (.tmp 7) rfl g4 f7 (B64 (bdig (two R S))) _ 26 (hF.j.at g4 (B64 (bdig (two R S))) 26 (.head _)) Tryz.underlying26 rfl (B64_info _) (hK _ _ (.inr rfl) hF.j)
    · have ho' := ho
      obtain rfl := Option.some.inj ho
      have f30 : ac.tmps.getD 30 undef = .agg (B32 (bdig y)) := valv hF hd 12 rfl rfl (by kernel_rfl)
      have f31 : ac.tmps.getD 31 undef = .slice ja m.length jc := valv hF hd 13 rfl rfl (by kernel_rfl)
      have f32 : ac.tmps.getD 32 undef = .agg (B64 (bdig (two R S))) := valv hF hd 14 rfl rfl (by kernel_rfl)
      have fg : ac.tmps.getD 29 undef = .bool true := valv hF hd 11 rfl rfl (by kernel_rfl)
      refine step_do ho' (wanted_so (g := 11) rfl rfl rfl fg) ?_
      unfold Oper.wp
      go_simp
      refine (hver.out _ _ _ (F.keep _ _ hT hF.j.2) (hTx.out _ (hF.j.at bX X tX (.tail _ (.tail _ (.head _)))))).mono ?_
      rintro e w' ⟨rfl, hB⟩
      exact hK _ _ (.inr rfl) ((hF.j).below hB)
    · have ho' := ho
      obtain rfl := Option.some.inj ho
      have f29 : ac.tmps.getD 29 undef = .bool true := valv hF hd 11 rfl rfl (by kernel_rfl)
      have f33 : ac.tmps.getD 33 undef = .bool true := valv hF hd 15 rfl rfl (by kernel_rfl)
      refine step_do ho' (wanted_free rfl) ?_
      unfold Oper.wp
      go_simp
      exact hK _ _ (.inr rfl) hF.j
    · have ho' := ho
      obtain rfl := Option.some.inj ho
      have f34 : ac.tmps.getD 34 undef = .bool true := valv hF hd 16 rfl rfl (by kernel_rfl)
      refine step_do ho' (wanted_free rfl) ?_
      unfold Oper.wp
      go_simp
      exact hK _ _ (.inr rfl) hF.j
    · have ho' := ho
      obtain rfl := Option.some.inj ho
      have f5 : ac.tmps.getD 5 undef = .slice ja m.length jc := slotv hF 18 hLi 5 (by kernel_rfl)
      have fg : ac.tmps.getD 35 undef = .bool true := valv hF hd 17 rfl rfl (by kernel_rfl)
      refine step_do ho' (wanted_so (g := 17) rfl rfl rfl fg) ?_
      unfold Oper.wp
      go_simp
      exact hK _ _ (.inr rfl) hF.j
    · have ho' := ho
      obtain rfl := Option.some.inj ho
      have f1 : ac.tmps.getD 1 undef = .slice ta m.length tc := slotv hF 19 hLi 1 (by kernel_rfl)
      have fg : ac.tmps.getD 35 undef = .bool true := valv hF hd 17 rfl rfl (by kernel_rfl)
      refine step_do ho' (wanted_so (g := 17) rfl rfl rfl fg) ?_
      unfold Oper.wp
      go_simp
      exact hK _ _ (.inr rfl) hF.j
    · have ho' := ho
      obtain rfl := Option.some.inj ho
      have f36 : ac.tmps.getD 36 undef = .slice ja m.length jc := valv hF hd 18 rfl rfl (by kernel_rfl)
      have f37 : ac.tmps.getD 37 undef = .slice ta m.length tc := valv hF hd 19 rfl rfl (by kernel_rfl)
      have fg : ac.tmps.getD 35 undef = .bool true := valv hF hd 17 rfl rfl (by kernel_rfl)
      refine step_do ho' (wanted_so (g := 17) rfl rfl rfl fg) ?_
      unfold Oper.wp
      go_simp
      refine (bytes_is (hTx.out _ (hF.j.at bX X tX (.tail _ (.tail _ (.head _))))) (hm.below hF.j.2)).mono ?_
      rintro e w' ⟨rfl, hB⟩
      exact hK _ _ (.inr rfl) ((hF.j).below hB)
    · have ho' := ho
      obtain rfl := Option.some.inj ho
      have f35 : ac.tmps.getD 35 undef = .bool true := valv hF hd 17 rfl rfl (by kernel_rfl)
      have f38 : ac.tmps.getD 38 undef = .bool true := valv hF hd 20 rfl rfl (by kernel_rfl)
      refine step_do ho' (wanted_free rfl) ?_
      unfold Oper.wp
      go_simp
      exact hK _ _ (.inr rfl) hF.j
    · have ho' := ho
      obtain rfl := Option.some.inj ho
      have f39 : ac.tmps.getD 39 undef = .bool true := valv hF hd 21 rfl rfl (by kernel_rfl)
      refine step_do ho' (wanted_free rfl) ?_
      unfold Oper.wp
      go_simp
      exact hK _ _ (.inr rfl) hF.j
    · have ho' := ho
      obtain rfl := Option.some.inj ho
      have fg : ac.tmps.getD 40 undef = .bool true := valv hF hd 22 rfl rfl (by kernel_rfl)
      refine step_do ho' (wanted_so (g := 22) rfl rfl rfl fg) ?_
      unfold Oper.wp
      go_simp
      refine (wakes_is F _ (F.keep _ _ hT hF.j.2)).mono ?_
      rintro e w' ⟨rfl, hB⟩
      exact hK _ _ (.inr rfl) ((hF.j).below hB)
    · have ho' := ho
      obtain rfl := Option.some.inj ho
      have f40 : ac.tmps.getD 40 undef = .bool true := valv hF hd 22 rfl rfl (by kernel_rfl)
      have f41 : ac.tmps.getD 41 undef = .bool true := valv hF hd 23 rfl rfl (by kernel_rfl)
      refine step_do ho' (wanted_free rfl) ?_
      unfold Oper.wp
      go_simp
      exact hK _ _ (.inr rfl) hF.j
    · have ho' := ho
      obtain rfl := Option.some.inj ho
      have f42 : ac.tmps.getD 42 undef = .bool true := valv hF hd 24 rfl rfl (by kernel_rfl)
      refine step_do ho' (wanted_free rfl) ?_
      unfold Oper.wp
      go_simp
      exact hK _ _ (.inr rfl) hF.j
    · cases ho
  intro L V5 hL hKq
  have hK : Kp [(g4, B64 (bdig (two R S)), 26), (g3, B32 (bdig y), 22), (bX, X, tX), (bA, B32 (bdig n), 22)] w V5 := hKq
  clear hKq hL
  simp only [putAll, valEx5, Act.put, List.setIfInBounds_toArray, List.set_cons_succ, List.set_cons_zero]
  go_wp2
  go_ret
  exact ⟨rfl, hK.2⟩
end Go.Proofs.YtfkcphbbabaefaaGreatDoor
namespace Go.Proofs.YtfkcphbbabaefaaGreatDoor
open Go Go.RowKit
theorem exact_row {n : Nat} {a : Option Addr} {len cap : Nat} {zs : List Int} {w : World} (h : IsRow .u8 w a len cap zs) (hT : TS w) : Calls Tryz.prog 3 #[.agg (B32 (bdig n)), .slice a len cap] w fun x w' => x = .returned (.bool true) ∧ Below w.heap.size w w' := by
  obtain ⟨e, ht⟩ := txt_of_row h
  by_cases hn : (zs.take len).length ≤ 200
  · have := exact_short low (n := n) hn w hT ht
    rw [← e] at this
    exact this
  · have := exact_long (n := n) (ta := a) (tc := cap) (m := zs.take len) (by omega) w
    rw [← e] at this
    exact this
end Go.Proofs.YtfkcphbbabaefaaGreatDoor
