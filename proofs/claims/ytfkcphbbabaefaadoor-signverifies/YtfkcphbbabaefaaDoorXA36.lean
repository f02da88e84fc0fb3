/- Of the texts SL2, SE2: what the card of this claim reaches. -/
import Derived.Test.YtfkcphbbabaefaaDoorXA35
import Derived.Test.YtfkcphbbabaefaaDoorXA25
namespace Go.Proofs.YtfkcphbbabaefaaDoor
open Go Go.RowKit
def valVs4 (p R S : Nat) (v : Bool) (ta ja : Option Addr) (tc jc : Nat) (m : List Int) : Nat → Value
  | 0 => .agg (B32 (bdig p))
  | 1 => .slice ja m.length jc
  | 2 => .agg (B64 (bdig (two R S)))
  | 3 => .bool v
  | 4 => .agg (B32 (bdig p))
  | 5 => .slice ta m.length tc
  | 6 => .agg (B64 (bdig (two R S)))
  | 7 => .bool v
  | 8 => .bool true
  | 9 => .bool true
  | 10 => .slice ja m.length jc
  | 11 => .slice ta m.length tc
  | 12 => .bool true
  | 13 => .bool true
  | 14 => .bool true
  | 15 => .bool true
  | 16 => .bool true
  | 17 => .bool true
  | _ => undef
set_option maxRecDepth 100000 in
set_option maxHeartbeats 2000000 in
theorem verifies_long {p R S : Nat} {ta : Option Addr} {tc : Nat} {m : List Int} (hn : 200 < m.length) (w : World) : Calls Tryd.prog 3 #[.agg (B32 (bdig p)), .slice ta m.length tc, .agg (B64 (bdig (two R S)))] w fun x w' => x = .returned (.bool true) ∧ Below w.heap.size w w' := by
  have hki : (200 : Int) < (m.length : Int) := by omega
  go_enter Tryd.func3, Tryd.ntmps3
  go_wp2
  go_ret
  exact ⟨rfl, ((Below.refl _ _).alloc (Nat.le_refl _) _).alloc (by simp) _⟩
set_option maxRecDepth 100000 in
set_option maxHeartbeats 2000000 in
theorem verifies_short {T : World → Prop} (F : Low T) {p R S : Nat} {ta : Option Addr} {tc : Nat} {m : List Int} (lp : Hid (p < R256)) (lR : Hid (R < R256)) (lS : Hid (S < R256)) (hn : m.length ≤ 200) (w : World) (hT : T w) (hm : Txt w ta tc m) : Calls Tryd.prog 3 #[.agg (B32 (bdig p)), .slice ta m.length tc, .agg (B64 (bdig (two R S)))] w fun x w' => x = .returned (.bool true) ∧ Below w.heap.size w w' := by
  have hki : ¬ (200 : Int) < (m.length : Int) := by omega
  have hki' : decide ((200 : Int) < (m.length : Int)) = false := decide_eq_false hki
  have hl1 : Hid (m.length ≤ 1000) := by show _ ≤ _; omega
  obtain ⟨v, Hv⟩ : ∃ v, Hid (signedB p m R S = v) := ⟨_, rfl⟩
  have hver : Hid (∀ a c w, T w → Txt w a c m → Calls Tryd.prog 7 #[.agg (B32 (bdig p)), .slice a m.length c, .agg (B64 (bdig (two R S)))] w fun x w' => x = .returned (.bool v) ∧ Below w.heap.size w w') := fun a c w hT hm => by rw [← Hv.out]; exact verify_is F lp.out lR.out lS.out hl1.out w hT hm
  have hpver : Hid (∀ a c w, Txt w a c m → Calls Tryd.prog 8 #[.agg (B32 (bdig p)), .slice a m.length c, .agg (B64 (bdig (two R S)))] w fun x w' => x = .returned (.bool v) ∧ Below w.heap.size w w') := fun a c w hm => by rw [← Hv.out]; exact pverify_is lp.out lR.out lS.out hl1.out w hm
  have hvv : (v == v) = true := beq_self_eq_true v
  go_enter Tryd.func3, Tryd.ntmps3
  go_upto_region 1 with fail
  have hK := ((Kp.nil w).alloc (B32 (bdig p)) 22).alloc (B64 (bdig (two R S))) 24
  rw [World.size_alloc] at hK
  generalize (w.alloc (.cells (B32 (bdig p)) 22)).alloc (.cells (B64 (bdig (two R S))) 24) = W at *
  obtain ⟨bA, HbA⟩ : ∃ b, Hid (w.heap.size = b) := ⟨_, rfl⟩
  obtain ⟨bS, HbS⟩ : ∃ b, Hid (bA + 1 = b) := ⟨_, rfl⟩
  have le_bA : Hid (w.heap.size ≤ bA) := by show _ ≤ _; have := HbA.out; omega
  have le_bS : Hid (w.heap.size ≤ bS) := by show _ ≤ _; have := HbA.out; have := HbS.out; omega
  have ne_bA_bS : Hid (bA ≠ bS) := by show _ ≠ _; have := HbS.out; omega
  rw [HbA.out, HbS.out] at hK ⊢
  go_upto_region 3 with fail
  go_wp2_with fail
  have lt_bS := (hK.at bS (B64 (bdig (two R S))) 24 (.head _)).lt
  have lt_bA := (hK.at bA (B32 (bdig p)) 22 (.tail _ (.head _))).lt
  refine (twin_is (hm.below hK.2) hl1.out (hK.at bA (B32 (bdig p)) 22 (.tail _ (.head _)))).mono ?_
  rintro e V1 ⟨ja, jc, bX, X, tX, rfl, hO, oX, hap, bw⟩
  have hK := (hK.below bw).cons oX
  clear bw oX
  replace hO := show Hid _ from hO
  have hTx : Hid (∀ W, Own W bX X tX → Txt W ja jc m) := fun W h => txt_of_own (hO.out W h) hm.1.2.2.2.1
  have ne_bS_bX : Hid (bS ≠ bX) := hap bS lt_bS (Ne.symm ne_bA_bS.out)
  clear hap lt_bS lt_bA
  go_upto_region 4 with fail
  refine wp_region_vals 30 (by kernel_rfl) (by kernel_rfl) (by rfl) (valVs4 p R S v ta ja tc jc m) (fun _ => Kp [(bX, X, tX), (bS, B64 (bdig (two R S)), 24), (bA, B32 (bdig p), 22)] w) hK.drew ?_ ?_
  · intro L ac wc i o hF hLi ho hd K hK
    rcases i with _ | _ | _ | _ | _ | _ | _ | _ | _ | _ | _ | _ | _ | _ | _ | _ | _ | _ | i
    · have ho' := ho
      obtain rfl := Option.some.inj ho
      have f3 : ac.tmps.getD 3 undef = .pointer (some ⟨bA, 0, none⟩) := slotv hF 0 hLi 3 (by kernel_rfl)
      refine step_do ho' (wanted_free rfl) ?_
      exact wp_load_own 22 (.tmp 3) rfl bA f3 (B32 (bdig p)) _ 22 (hF.j.at bA (B32 (bdig p)) 22 (.tail _ (.tail _ (.head _)))) Tryd.underlying22 rfl (B32_info _) (hK _ _ (.inr rfl) hF.j)
    · have ho' := ho
      obtain rfl := Option.some.inj ho
      have f7 : ac.tmps.getD 7 undef = .slice ja m.length jc := slotv hF 1 hLi 7 (by kernel_rfl)
      refine step_do ho' (wanted_free rfl) ?_
      unfold Oper.wp
      go_simp
      exact hK _ _ (.inr rfl) hF.j
    · have ho' := ho
      obtain rfl := Option.some.inj ho
      have f5 : ac.tmps.getD 5 undef = .pointer (some ⟨bS, 0, none⟩) := slotv hF 2 hLi 5 (by kernel_rfl)
      refine step_do ho' (wanted_free rfl) ?_
      exact wp_load_own 24 (.tmp 5) rfl bS f5 (B64 (bdig (two R S))) _ 24 (hF.j.at bS (B64 (bdig (two R S))) 24 (.tail _ (.head _))) Tryd.underlying24 rfl (B64_info _) (hK _ _ (.inr rfl) hF.j)
    · have ho' := ho
      obtain rfl := Option.some.inj ho
      have f13 : ac.tmps.getD 13 undef = .agg (B32 (bdig p)) := valv hF hd 0 rfl rfl (by kernel_rfl)
      have f14 : ac.tmps.getD 14 undef = .slice ja m.length jc := valv hF hd 1 rfl rfl (by kernel_rfl)
      have f15 : ac.tmps.getD 15 undef = .agg (B64 (bdig (two R S))) := valv hF hd 2 rfl rfl (by kernel_rfl)
      refine step_do ho' (wanted_free rfl) ?_
      unfold Oper.wp
      go_simp
      refine (hver.out _ _ _ (F.keep _ _ hT hF.j.2) (hTx.out _ (hF.j.at bX X tX (.head _)))).mono ?_
      rintro e w' ⟨rfl, hB⟩
      exact hK _ _ (.inr rfl) ((hF.j).below hB)
    · have ho' := ho
      obtain rfl := Option.some.inj ho
      have f3 : ac.tmps.getD 3 undef = .pointer (some ⟨bA, 0, none⟩) := slotv hF 4 hLi 3 (by kernel_rfl)
      refine step_do ho' (wanted_free rfl) ?_
      exact wp_load_own 22 (.tmp 3) rfl bA f3 (B32 (bdig p)) _ 22 (hF.j.at bA (B32 (bdig p)) 22 (.tail _ (.tail _ (.head _)))) Tryd.underlying22 rfl (B32_info _) (hK _ _ (.inr rfl) hF.j)
    · have ho' := ho
      obtain rfl := Option.some.inj ho
      have f1 : ac.tmps.getD 1 undef = .slice ta m.length tc := slotv hF 5 hLi 1 (by kernel_rfl)
      refine step_do ho' (wanted_free rfl) ?_
      unfold Oper.wp
      go_simp
      exact hK _ _ (.inr rfl) hF.j
    · have ho' := ho
      obtain rfl := Option.some.inj ho
      have f5 : ac.tmps.getD 5 undef = .pointer (some ⟨bS, 0, none⟩) := slotv hF 6 hLi 5 (by kernel_rfl)
      refine step_do ho' (wanted_free rfl) ?_
      exact wp_load_own 24 (.tmp 5) rfl bS f5 (B64 (bdig (two R S))) _ 24 (hF.j.at bS (B64 (bdig (two R S))) 24 (.tail _ (.head _))) Tryd.underlying24 rfl (B64_info _) (hK _ _ (.inr rfl) hF.j)
    · have ho' := ho
      obtain rfl := Option.some.inj ho
      have f17 : ac.tmps.getD 17 undef = .agg (B32 (bdig p)) := valv hF hd 4 rfl rfl (by kernel_rfl)
      have f18 : ac.tmps.getD 18 undef = .slice ta m.length tc := valv hF hd 5 rfl rfl (by kernel_rfl)
      have f19 : ac.tmps.getD 19 undef = .agg (B64 (bdig (two R S))) := valv hF hd 6 rfl rfl (by kernel_rfl)
      refine step_do ho' (wanted_free rfl) ?_
      unfold Oper.wp
      go_simp
      refine (hpver.out _ _ _ (hm.below hF.j.2)).mono ?_
      rintro e w' ⟨rfl, hB⟩
      exact hK _ _ (.inr rfl) ((hF.j).below hB)
    · have ho' := ho
      obtain rfl := Option.some.inj ho
      have f16 : ac.tmps.getD 16 undef = .bool v := valv hF hd 3 rfl rfl (by kernel_rfl)
      have f20 : ac.tmps.getD 20 undef = .bool v := valv hF hd 7 rfl rfl (by kernel_rfl)
      refine step_do ho' (wanted_free rfl) ?_
      unfold Oper.wp
      go_simp
      exact hK _ _ (.inr rfl) hF.j
    · have ho' := ho
      obtain rfl := Option.some.inj ho
      have f21 : ac.tmps.getD 21 undef = .bool true := valv hF hd 8 rfl rfl (by kernel_rfl)
      refine step_do ho' (wanted_free rfl) ?_
      unfold Oper.wp
      go_simp
      exact hK _ _ (.inr rfl) hF.j
    · have ho' := ho
      obtain rfl := Option.some.inj ho
      have f7 : ac.tmps.getD 7 undef = .slice ja m.length jc := slotv hF 10 hLi 7 (by kernel_rfl)
      have fg : ac.tmps.getD 22 undef = .bool true := valv hF hd 9 rfl rfl (by kernel_rfl)
      refine step_do ho' (wanted_so (g := 9) rfl rfl rfl fg) ?_
      unfold Oper.wp
      go_simp
      exact hK _ _ (.inr rfl) hF.j
    · have ho' := ho
      obtain rfl := Option.some.inj ho
      have f1 : ac.tmps.getD 1 undef = .slice ta m.length tc := slotv hF 11 hLi 1 (by kernel_rfl)
      have fg : ac.tmps.getD 22 undef = .bool true := valv hF hd 9 rfl rfl (by kernel_rfl)
      refine step_do ho' (wanted_so (g := 9) rfl rfl rfl fg) ?_
      unfold Oper.wp
      go_simp
      exact hK _ _ (.inr rfl) hF.j
    · have ho' := ho
      obtain rfl := Option.some.inj ho
      have f23 : ac.tmps.getD 23 undef = .slice ja m.length jc := valv hF hd 10 rfl rfl (by kernel_rfl)
      have f24 : ac.tmps.getD 24 undef = .slice ta m.length tc := valv hF hd 11 rfl rfl (by kernel_rfl)
      have fg : ac.tmps.getD 22 undef = .bool true := valv hF hd 9 rfl rfl (by kernel_rfl)
      refine step_do ho' (wanted_so (g := 9) rfl rfl rfl fg) ?_
      unfold Oper.wp
      go_simp
      refine (bytes_is (hTx.out _ (hF.j.at bX X tX (.head _))) (hm.below hF.j.2)).mono ?_
      rintro e w' ⟨rfl, hB⟩
      exact hK _ _ (.inr rfl) ((hF.j).below hB)
    · have ho' := ho
      obtain rfl := Option.some.inj ho
      have f22 : ac.tmps.getD 22 undef = .bool true := valv hF hd 9 rfl rfl (by kernel_rfl)
      have f25 : ac.tmps.getD 25 undef = .bool true := valv hF hd 12 rfl rfl (by kernel_rfl)
      refine step_do ho' (wanted_free rfl) ?_
      unfold Oper.wp
      go_simp
      exact hK _ _ (.inr rfl) hF.j
    · have ho' := ho
      obtain rfl := Option.some.inj ho
      have f26 : ac.tmps.getD 26 undef = .bool true := valv hF hd 13 rfl rfl (by kernel_rfl)
      refine step_do ho' (wanted_free rfl) ?_
      unfold Oper.wp
      go_simp
      exact hK _ _ (.inr rfl) hF.j
    · have ho' := ho
      obtain rfl := Option.some.inj ho
      have fg : ac.tmps.getD 27 undef = .bool true := valv hF hd 14 rfl rfl (by kernel_rfl)
      refine step_do ho' (wanted_so (g := 14) rfl rfl rfl fg) ?_
      unfold Oper.wp
      go_simp
      refine (wakes_is F _ (F.keep _ _ hT hF.j.2)).mono ?_
      rintro e w' ⟨rfl, hB⟩
      exact hK _ _ (.inr rfl) ((hF.j).below hB)
    · have ho' := ho
      obtain rfl := Option.some.inj ho
      have f27 : ac.tmps.getD 27 undef = .bool true := valv hF hd 14 rfl rfl (by kernel_rfl)
      have f28 : ac.tmps.getD 28 undef = .bool true := valv hF hd 15 rfl rfl (by kernel_rfl)
      refine step_do ho' (wanted_free rfl) ?_
      unfold Oper.wp
      go_simp
      exact hK _ _ (.inr rfl) hF.j
    · have ho' := ho
      obtain rfl := Option.some.inj ho
      have f29 : ac.tmps.getD 29 undef = .bool true := valv hF hd 16 rfl rfl (by kernel_rfl)
      refine step_do ho' (wanted_free rfl) ?_
      unfold Oper.wp
      go_simp
      exact hK _ _ (.inr rfl) hF.j
    · cases ho
  intro L V2 hL hKq
  have hK : Kp [(bX, X, tX), (bS, B64 (bdig (two R S)), 24), (bA, B32 (bdig p), 22)] w V2 := hKq
  clear hKq hL
  simp only [putAll, valVs4, Act.put, List.setIfInBounds_toArray, List.set_cons_succ, List.set_cons_zero]
  go_wp2
  go_ret
  exact ⟨rfl, hK.2⟩
end Go.Proofs.YtfkcphbbabaefaaDoor
namespace Go.Proofs.YtfkcphbbabaefaaDoor
open Go Go.RowKit
theorem verifies_row {p z : Nat} (lp : p < R256) {a : Option Addr} {len cap : Nat} {zs : List Int} {w : World} (h : IsRow .u8 w a len cap zs) (hz : z < R512) (hT : TS w) : Calls Tryd.prog 3 #[.agg (B32 (bdig p)), .slice a len cap, .agg (B64 (bdig z))] w fun x w' => x = .returned (.bool true) ∧ Below w.heap.size w w' := by
  obtain ⟨e, ht⟩ := txt_of_row h
  rw [← two_parts z]
  by_cases hn : (zs.take len).length ≤ 200
  · have := verifies_short low (p := p) (R := z % R256) (S := z / R256) lp (lo_lt z) (hi_lt hz) hn w hT ht
    rw [← e] at this
    exact this
  · have := verifies_long (p := p) (R := z % R256) (S := z / R256) (ta := a) (tc := cap) (m := zs.take len) (by omega) w
    rw [← e] at this
    exact this
end Go.Proofs.YtfkcphbbabaefaaDoor
