/- Of the texts SL5: what the card of this claim reaches. -/
import Derived.Test.YtfkcphbbabaefaaGreatDoorXD48
import Derived.Test.YtfkcphbbabaefaaGreatDoorXD15
namespace Go.Proofs.YtfkcphbbabaefaaGreatDoor
open Go Go.RowKit
theorem two_set_lo {x R S n k : Nat} {f : Nat → Nat} (hx : bdig n k = x) (hf : ∀ j, j < 64 → f j = if j < k then bdig n j else bdig (two R S) j) (j : Nat) (hj : j < 64) : upd f k x j = if j < k + 1 then bdig n j else bdig (two R S) j := by
  by_cases e : j = k
  · subst e; rw [upd_same, if_pos (by omega), hx]
  · rw [upd_other _ _ _ _ e, hf j hj]
    by_cases h : j < k
    · rw [if_pos h, if_pos (by omega)]
    · rw [if_neg h, if_neg (by omega)]
theorem two_set_hi {x R S n k : Nat} {f : Nat → Nat} (hx : bdig n k = x) (hf : ∀ j, j < 64 → f j = if 32 ≤ j ∧ j < 32 + k then bdig n (j - 32) else bdig (two R S) j) (j : Nat) (hj : j < 64) : upd f (32 + k) x j = if 32 ≤ j ∧ j < 32 + (k + 1) then bdig n (j - 32) else bdig (two R S) j := by
  by_cases e : j = 32 + k
  · subst e; rw [upd_same, if_pos (by omega), ← hx]; congr 1; omega
  · rw [upd_other _ _ _ _ e, hf j hj]
    by_cases h : 32 ≤ j ∧ j < 32 + k
    · rw [if_pos h, if_pos (by omega)]
    · rw [if_neg h, if_neg (by omega)]
theorem two_done_lo {R S n k : Nat} {f : Nat → Nat} (hR : R < R256) (hn : n < R256) (hk : ¬ k < 32) (hk2 : k ≤ 32) (hf : ∀ j, j < 64 → f j = if j < k then bdig n j else bdig (two R S) j) : B64 f = B64 (bdig (two n S)) := B64_ext fun j hj => by
  rw [hf j hj]
  by_cases h : j < 32
  · rw [if_pos (by omega), two_byte_lo hn h]
  · obtain ⟨i, rfl⟩ : ∃ i, j = 32 + i := ⟨j - 32, by omega⟩
    rw [if_neg (by omega), two_byte_hi hR, two_byte_hi hn]
theorem two_done_hi {R S n k : Nat} {f : Nat → Nat} (hR : R < R256) (hk : ¬ k < 32) (hf : ∀ j, j < 64 → f j = if 32 ≤ j ∧ j < 32 + k then bdig n (j - 32) else bdig (two R S) j) : B64 f = B64 (bdig (two R n)) := B64_ext fun j hj => by
  rw [hf j hj]
  by_cases h : j < 32
  · rw [if_neg (by omega), two_byte_lo hR h, two_byte_lo hR h]
  · obtain ⟨i, rfl⟩ : ∃ i, j = 32 + i := ⟨j - 32, by omega⟩
    rw [if_pos (by omega), two_byte_hi hR]; congr 1; omega
theorem verify_false {T : World → Prop} (F : Low T) {p R S : Nat} {ta : Option Addr} {tc : Nat} {m : List Int} (lp : p < R256) (lR : R < R256) (lS : S < R256) (hl : m.length ≤ 1000) (h : signedB p m R S = false) (w : World) (hT : T w) (hm : Txt w ta tc m) : Calls Tryz.prog 10 #[.agg (B32 (bdig p)), .slice ta m.length tc, .agg (B64 (bdig (two R S)))] w fun x w' => x = .returned (.bool false) ∧ Below w.heap.size w w' := by
  rw [← h]; exact verify_is F lp lR lS hl w hT hm
def factOt4 (a b y q : Nat) : Nat → Value → Prop
  | 0, vq => vq = .agg (B32 (bdig a))
  | 1, vq => vq = .agg (B32 (bdig y))
  | 2, vq => vq = .agg (B32 (bdig b))
  | 3, vq => vq = .agg (B32 (bdig q))
  | 4, vq => ∃ g, vq = .pointer (some ⟨g, 0, none⟩)
  | 5, vq => ∃ g, vq = .pointer (some ⟨g, 0, none⟩)
  | _, _ => True
def valOt5 (y q R S : Nat) (v : Bool) (ta : Option Addr) (tc : Nat) (m : List Int) : Nat → Value
  | 0 => .agg (B32 (bdig q))
  | 1 => .slice ta m.length tc
  | 2 => .agg (B64 (bdig (two R S)))
  | 3 => .bool true
  | 4 => .bool false
  | 5 => .bool false
  | 6 => .agg (B32 (bdig y))
  | 7 => .slice ta m.length tc
  | 8 => .agg (B64 (bdig (two R S)))
  | 9 => .bool v
  | 10 => .agg (B32 (bdig y))
  | 11 => .slice ta m.length tc
  | 12 => .agg (B64 (bdig (two R S)))
  | 13 => .bool v
  | 14 => .bool false
  | 15 => .bool false
  | _ => undef
def factOt7 (R S : Nat) : Nat → Value → Prop
  | 0, vq => vq = .agg (B64 (bdig (two R S)))
  | 1, vq => vq = .agg (B64 (bdig (two R S)))
  | 2, vq => ∃ g, vq = .pointer (some ⟨g, 0, none⟩)
  | 3, vq => ∃ g, vq = .pointer (some ⟨g, 0, none⟩)
  | _, _ => True
set_option maxRecDepth 100000 in
set_option maxHeartbeats 2000000 in
theorem other_long {a b n : Nat} {ta : Option Addr} {tc : Nat} {m : List Int} (hn : 200 < m.length) (w : World) : Calls Tryz.prog 4 #[.agg (B32 (bdig a)), .agg (B32 (bdig b)), .slice ta m.length tc, .agg (B32 (bdig n))] w fun x w' => x = .returned (.bool true) ∧ Below w.heap.size w w' := by
  have hki : (200 : Int) < (m.length : Int) := by omega
  go_enter Tryz.func4, Tryz.ntmps4
  go_wp2
  go_ret
  exact ⟨rfl, (((Below.refl _ _).alloc (Nat.le_refl _) _).alloc (by simp) _).alloc (by simp; omega) _⟩
set_option maxRecDepth 100000 in
set_option maxHeartbeats 2000000 in
theorem other_short {T : World → Prop} (F : Low T) {a b n : Nat} {ta : Option Addr} {tc : Nat} {m : List Int} (ln : Hid (n < R256)) (hn : m.length ≤ 200) (w : World) (hT : T w) (hm : Txt w ta tc m) : Calls Tryz.prog 4 #[.agg (B32 (bdig a)), .agg (B32 (bdig b)), .slice ta m.length tc, .agg (B32 (bdig n))] w fun x w' => x = .returned (.bool true) ∧ Below w.heap.size w w' := by
  have hz := (zero_of_info zeroB32).1
  have hz64 := (zero_of_info zeroB64).1
  have hki : ¬ (200 : Int) < (m.length : Int) := by omega
  have hki' : decide ((200 : Int) < (m.length : Int)) = false := decide_eq_false hki
  have hl1 : Hid (m.length ≤ 1000) := by show _ ≤ _; omega
  obtain ⟨y, Hy⟩ : ∃ y, Hid (pubOf a = y) := ⟨_, rfl⟩
  obtain ⟨q, Hq⟩ : ∃ y, Hid (pubOf b = y) := ⟨_, rfl⟩
  obtain ⟨R, HR⟩ : ∃ R, Hid (rOf b m = R) := ⟨_, rfl⟩
  obtain ⟨S, HS⟩ : ∃ S, Hid (sOf b m = S) := ⟨_, rfl⟩
  have lR : Hid (R < R256) := by show _ < _; rw [← HR.out]; exact rOf_lt b m
  have ly : Hid (y < R256) := by show _ < _; rw [← Hy.out]; exact pubOf_lt a
  have lq : Hid (q < R256) := by show _ < _; rw [← Hq.out]; exact pubOf_lt b
  have lS : Hid (S < R256) := by show _ < _; rw [← HS.out]; exact sOf_lt2 b m
  obtain ⟨v, Hv⟩ : ∃ v, Hid (signedB y m R S = v) := ⟨_, rfl⟩
  have hvn : (v != v) = false := by cases v <;> rfl
  have hvv : (v == v) = true := by cases v <;> rfl
  have hpa : Hid (∀ w, T w → Calls Tryz.prog 6 #[.agg (B32 (bdig a))] w fun x w' => x = .returned (.agg (B32 (bdig y))) ∧ Below w.heap.size w w') := fun w hT => by rw [← Hy.out]; exact public_is F a w hT
  have hpb : Hid (∀ w, T w → Calls Tryz.prog 6 #[.agg (B32 (bdig b))] w fun x w' => x = .returned (.agg (B32 (bdig q))) ∧ Below w.heap.size w w') := fun w hT => by rw [← Hq.out]; exact public_is F b w hT
  have hsig : Hid (∀ w, T w → Txt w ta tc m → Calls Tryz.prog 7 #[.agg (B32 (bdig b)), .slice ta m.length tc] w fun x w' => x = .returned (.agg (B64 (bdig (two R S)))) ∧ Below w.heap.size w w') := fun w hT hm => by rw [← HR.out, ← HS.out]; exact sign_is F b hl1.out w hT hm
  have hqt : signedB q m R S = true := by rw [← Hq.out, ← HR.out, ← HS.out]; exact sign_signed b m
  have hv1 : Hid (∀ w, T w → Txt w ta tc m → Calls Tryz.prog 10 #[.agg (B32 (bdig q)), .slice ta m.length tc, .agg (B64 (bdig (two R S)))] w fun x w' => x = .returned (.bool true) ∧ Below w.heap.size w w') := fun w hT hm => by
    have h := verify_is F (p := q) (R := R) (S := S) lq.out lR.out lS.out hl1.out w hT hm
    rw [hqt] at h
    exact h
  have hv2 : Hid (∀ w, T w → Txt w ta tc m → Calls Tryz.prog 10 #[.agg (B32 (bdig y)), .slice ta m.length tc, .agg (B64 (bdig (two R S)))] w fun x w' => x = .returned (.bool v) ∧ Below w.heap.size w w') := fun w hT hm => by
    have h := verify_is F (p := y) (R := R) (S := S) ly.out lR.out lS.out hl1.out w hT hm
    rw [Hv.out] at h
    exact h
  have hv3 : Hid (∀ w, Txt w ta tc m → Calls Tryz.prog 13 #[.agg (B32 (bdig y)), .slice ta m.length tc, .agg (B64 (bdig (two R S)))] w fun x w' => x = .returned (.bool v) ∧ Below w.heap.size w w') := fun w hm => by rw [← Hv.out]; exact pverify_is ly.out lR.out lS.out hl1.out w hm
  clear hqt
  go_enter Tryz.func4, Tryz.ntmps4
  go_upto_region 1 with fail
  have hK := (((Kp.nil w).alloc (B32 (bdig a)) 22).alloc (B32 (bdig b)) 22).alloc (B32 (bdig n)) 22
  rw [World.size_alloc, World.size_alloc] at hK
  generalize ((w.alloc (.cells (B32 (bdig a)) 22)).alloc (.cells (B32 (bdig b)) 22)).alloc (.cells (B32 (bdig n)) 22) = W at *
  obtain ⟨bA, HbA⟩ : ∃ b, Hid (w.heap.size = b) := ⟨_, rfl⟩
  obtain ⟨bB, HbB⟩ : ∃ b, Hid (bA + 1 = b) := ⟨_, rfl⟩
  obtain ⟨bN, HbN⟩ : ∃ b, Hid (bB + 1 = b) := ⟨_, rfl⟩
  have le_bA : Hid (w.heap.size ≤ bA) := by show _ ≤ _; have := HbA.out; omega
  have le_bB : Hid (w.heap.size ≤ bB) := by show _ ≤ _; have := HbA.out; have := HbB.out; omega
  have le_bN : Hid (w.heap.size ≤ bN) := by show _ ≤ _; have := HbA.out; have := HbB.out; have := HbN.out; omega
  have ne_bA_bB : Hid (bA ≠ bB) := by show _ ≠ _; have := HbB.out; omega
  have ne_bA_bN : Hid (bA ≠ bN) := by show _ ≠ _; have := HbB.out; have := HbN.out; omega
  have ne_bB_bN : Hid (bB ≠ bN) := by show _ ≠ _; have := HbN.out; omega
  rw [HbA.out, HbB.out, HbN.out] at hK ⊢
  go_upto_region 3 with fail
  go_wp2_with (refine wpList_load_own (by rfl) 22 (.tmp 5) (by rfl) bB (by rfl) (B32 (bdig b)) _ (hK.at bB (B32 (bdig b)) 22 (.tail _ (.head _))) Tryz.underlying22 (by rfl) (B32_info _) ?_)
  refine (hsig.out _ (F.keep _ _ hT hK.2) (hm.below hK.2)).mono ?_
  rintro e V1 ⟨rfl, bw⟩
  have hK := hK.below bw
  clear bw
  go_upto_region 4 with (refine wpList_store_new (by rfl) 26 (.tmp 9) (.tmp 20) (by rfl) _ (B64 (bdig (two R S))) (by rfl) (by rfl) (B64_info _) (B64_sizes _ _) (B64_one _) (by rfl) ?_)
  have lt_bN := (hK.at bN (B32 (bdig n)) 22 (.head _)).lt
  have lt_bB := (hK.at bB (B32 (bdig b)) 22 (.tail _ (.head _))).lt
  have lt_bA := (hK.at bA (B32 (bdig a)) 22 (.tail _ (.tail _ (.head _)))).lt
  have le_b2 := show Hid _ from hK.2.size
  have hK := hK.alloc (B64 (bdig (two R S))) 26
  generalize V1.alloc (.cells (B64 (bdig (two R S))) 26) = V3 at *
  obtain ⟨b2, Hb2⟩ : ∃ b, Hid (V1.heap.size = b) := ⟨_, rfl⟩
  have ne_bN_b2 : Hid (bN ≠ b2) := by show _ ≠ _; rw [← Hb2.out]; exact Nat.ne_of_lt lt_bN
  have ne_bB_b2 : Hid (bB ≠ b2) := by show _ ≠ _; rw [← Hb2.out]; exact Nat.ne_of_lt lt_bB
  have ne_bA_b2 : Hid (bA ≠ b2) := by show _ ≠ _; rw [← Hb2.out]; exact Nat.ne_of_lt lt_bA
  have le_b2 : Hid (w.heap.size ≤ b2) := by show _ ≤ _; rw [← Hb2.out]; exact le_b2.out
  rw [Hb2.out] at hK ⊢
  clear lt_bN lt_bB lt_bA
  refine wp_region_told 90 (by kernel_rfl) (by kernel_rfl) (by rfl) (factOt4 a b y q) (fun L vs => MkN 2 [(b2, B64 (bdig (two R S)), 26), (bN, B32 (bdig n), 22), (bB, B32 (bdig b), 22), (bA, B32 (bdig a), 22)] w (pick2 (B32 fun _ => 0) (B32 fun _ => 0)) (pick2 (B32 (bdig y)) (B32 (bdig q))) (pick2 (22) (22)) (fun i => L (4 + i)) (fun i => L (6 + i)) (fun i => vs (4 + i))) (fun _ => MkN.drew hK (fun _ _ => rfl)) ?_ ?_
  · intro L vs ac wc i o hF hLi ho hd K hK
    rcases i with _ | _ | _ | _ | _ | _ | _ | _ | i
    · have ho' := ho
      obtain rfl := Option.some.inj ho
      have f4 : ac.tmps.getD 4 undef = .pointer (some ⟨bA, 0, none⟩) := slott hF 0 hLi 4 (by kernel_rfl)
      refine step_do ho' (wanted_free rfl) ?_
      exact wp_load_own 22 (.tmp 4) rfl bA f4 (B32 (bdig a)) _ 22 (hF.j.1.at bA (B32 (bdig a)) 22 (.tail _ (.tail _ (.tail _ (.head _))))) Tryz.underlying22 rfl (B32_info _) (hK _ _ (.inr rfl) (hF.j.congr (fun i hi => if_off (by decide) hi) (fun i hi => if_off (by decide) hi) (fun i hi => if_off (by decide) hi)))
    · have ho' := ho
      obtain rfl := Option.some.inj ho
      have f21 : ac.tmps.getD 21 undef = .agg (B32 (bdig a)) := (factt hF hd 0 rfl rfl (by kernel_rfl)).1.trans (factt hF hd 0 rfl rfl (by kernel_rfl)).2
      refine step_do ho' (wanted_free rfl) ?_
      unfold Oper.wp
      go_simp
      refine (hpa.out _ (F.keep _ _ hT hF.j.1.2)).mono ?_
      rintro e w' ⟨rfl, hB⟩
      exact hK _ _ (.inr rfl) (((hF.j.congr (fun i hi => if_off (by decide) hi) (fun i hi => if_off (by decide) hi) (fun i hi => if_off (by decide) hi))).below hB)
    · have ho' := ho
      obtain rfl := Option.some.inj ho
      have f5 : ac.tmps.getD 5 undef = .pointer (some ⟨bB, 0, none⟩) := slott hF 2 hLi 5 (by kernel_rfl)
      refine step_do ho' (wanted_free rfl) ?_
      exact wp_load_own 22 (.tmp 5) rfl bB f5 (B32 (bdig b)) _ 22 (hF.j.1.at bB (B32 (bdig b)) 22 (.tail _ (.tail _ (.head _)))) Tryz.underlying22 rfl (B32_info _) (hK _ _ (.inr rfl) (hF.j.congr (fun i hi => if_off (by decide) hi) (fun i hi => if_off (by decide) hi) (fun i hi => if_off (by decide) hi)))
    · have ho' := ho
      obtain rfl := Option.some.inj ho
      have f23 : ac.tmps.getD 23 undef = .agg (B32 (bdig b)) := (factt hF hd 2 rfl rfl (by kernel_rfl)).1.trans (factt hF hd 2 rfl rfl (by kernel_rfl)).2
      refine step_do ho' (wanted_free rfl) ?_
      unfold Oper.wp
      go_simp
      refine (hpb.out _ (F.keep _ _ hT hF.j.1.2)).mono ?_
      rintro e w' ⟨rfl, hB⟩
      exact hK _ _ (.inr rfl) (((hF.j.congr (fun i hi => if_off (by decide) hi) (fun i hi => if_off (by decide) hi) (fun i hi => if_off (by decide) hi))).below hB)
    · have ho' := ho
      obtain rfl := Option.some.inj ho
      refine step_do ho' (wanted_free rfl) ?_
      have hs := notyett hF 4 hLi 6 rfl (by kernel_rfl)
      unfold Oper.wp
      go_simp
      exact hK _ _ (.inr ⟨_, rfl⟩) (hF.j.alloc 0 (fun i _ hne => if_oth (k := 0) rfl hne) (fun i hi => if_off (by decide) hi) (fun i _ hne => if_oth (k := 0) rfl hne) rfl hs)
    · have ho' := ho
      obtain rfl := Option.some.inj ho
      refine step_do ho' (wanted_free rfl) ?_
      have hs := notyett hF 5 hLi 7 rfl (by kernel_rfl)
      unfold Oper.wp
      go_simp
      exact hK _ _ (.inr ⟨_, rfl⟩) (hF.j.alloc 1 (fun i _ hne => if_oth (k := 1) rfl hne) (fun i hi => if_off (by decide) hi) (fun i _ hne => if_oth (k := 1) rfl hne) rfl hs)
    · have ho' := ho
      obtain rfl := Option.some.inj ho
      have f22 : ac.tmps.getD 22 undef = .agg (B32 (bdig y)) := (factt hF hd 1 rfl rfl (by kernel_rfl)).1.trans (factt hF hd 1 rfl rfl (by kernel_rfl)).2
      refine step_do ho' (wanted_free rfl) ?_
      obtain ⟨fg, gq, hg⟩ := factt hF hd 4 rfl rfl (by kernel_rfl)
      have hm_ := dep hd 4 (by kernel_rfl)
      have hj := hF.j
      rw [hg] at fg
      have hj2 := hj.at (k := 0) (by decide) hm_ hg hLi
      refine wp_store_own 22 (.tmp 10) (.tmp 22) rfl gq (B32 (bdig y)) fg f22 hj2.2.2 (B32_sizes _ _) (B32_info _) (B32_one _) rfl ?_
      exact hK undef _ (.inl rfl) (hj.storeA (k := 0) (A := B32 (bdig y)) rfl (by decide) hm_ hg hLi (B32_sizes _ _) (fun i hi => if_off (by decide) hi) (fun i _ hne => if_oth (k := 0) rfl hne) (fun i hi => if_off (by decide) hi) rfl)
    · have ho' := ho
      obtain rfl := Option.some.inj ho
      have f24 : ac.tmps.getD 24 undef = .agg (B32 (bdig q)) := (factt hF hd 3 rfl rfl (by kernel_rfl)).1.trans (factt hF hd 3 rfl rfl (by kernel_rfl)).2
      refine step_do ho' (wanted_free rfl) ?_
      obtain ⟨fg, gq, hg⟩ := factt hF hd 5 rfl rfl (by kernel_rfl)
      have hm_ := dep hd 5 (by kernel_rfl)
      have hj := hF.j
      rw [hg] at fg
      have hj2 := hj.at (k := 1) (by decide) hm_ hg hLi
      refine wp_store_own 22 (.tmp 11) (.tmp 24) rfl gq (B32 (bdig q)) fg f24 hj2.2.2 (B32_sizes _ _) (B32_info _) (B32_one _) rfl ?_
      exact hK undef _ (.inl rfl) (hj.storeA (k := 1) (A := B32 (bdig q)) rfl (by decide) hm_ hg hLi (B32_sizes _ _) (fun i hi => if_off (by decide) hi) (fun i _ hne => if_oth (k := 1) rfl hne) (fun i hi => if_off (by decide) hi) rfl)
    · cases ho
  intro L vs V4 hL hJ hf
  obtain ⟨g5, hgg5⟩ := hf 4 _ _ rfl rfl
  obtain ⟨le0, apg5, owng5⟩ := hJ.gotA (k := 0) (A := B32 (bdig y)) rfl (by decide) (hL 4 (by decide)) hgg5 (hL 6 (by decide))
  have le_g5 := show Hid _ from le0
  clear le0
  obtain ⟨g6, hgg6⟩ := hf 5 _ _ rfl rfl
  obtain ⟨le0, apg6, owng6⟩ := hJ.gotA (k := 1) (A := B32 (bdig q)) rfl (by decide) (hL 5 (by decide)) hgg6 (hL 7 (by decide))
  have le_g6 := show Hid _ from le0
  clear le0
  have ne_g5_g6 : Hid (g5 ≠ g6) := hJ.apart (i := 0) (j := 1) (by decide) (by decide) (by decide) (hL 4 (by decide)) (hL 5 (by decide)) hgg5 hgg6
  have ne_b2_g5 : Hid (b2 ≠ g5) := apg5 (b2, B64 (bdig (two R S)), 26) (.head _)
  have ne_bN_g5 : Hid (bN ≠ g5) := apg5 (bN, B32 (bdig n), 22) (.tail _ (.head _))
  have ne_bB_g5 : Hid (bB ≠ g5) := apg5 (bB, B32 (bdig b), 22) (.tail _ (.tail _ (.head _)))
  have ne_bA_g5 : Hid (bA ≠ g5) := apg5 (bA, B32 (bdig a), 22) (.tail _ (.tail _ (.tail _ (.head _))))
  have ne_b2_g6 : Hid (b2 ≠ g6) := apg6 (b2, B64 (bdig (two R S)), 26) (.head _)
  have ne_bN_g6 : Hid (bN ≠ g6) := apg6 (bN, B32 (bdig n), 22) (.tail _ (.head _))
  have ne_bB_g6 : Hid (bB ≠ g6) := apg6 (bB, B32 (bdig b), 22) (.tail _ (.tail _ (.head _)))
  have ne_bA_g6 : Hid (bA ≠ g6) := apg6 (bA, B32 (bdig a), 22) (.tail _ (.tail _ (.tail _ (.head _))))
  have hK : Kp [(g6, B32 (bdig q), 22), (g5, B32 (bdig y), 22), (b2, B64 (bdig (two R S)), 26), (bN, B32 (bdig n), 22), (bB, B32 (bdig b), 22), (bA, B32 (bdig a), 22)] w V4 := ((hJ.1.cons owng5).cons owng6)
  have e0 : vs 0 = _ := hf 0 _ _ rfl rfl
  have e1 : vs 1 = _ := hf 1 _ _ rfl rfl
  have e2 : vs 2 = _ := hf 2 _ _ rfl rfl
  have e3 : vs 3 = _ := hf 3 _ _ rfl rfl
  simp only [putAll, Nat.zero_add, Nat.reduceAdd, e0, e1, e2, e3, hgg5, hgg6, Act.put, List.setIfInBounds_toArray, List.set_cons_succ, List.set_cons_zero]
  clear hJ hf hL e0 e1 e2 e3 hgg5 hgg6 apg5 apg6 owng5 owng6
  go_upto_region 5 with fail
  refine wp_region_vals 90 (by kernel_rfl) (by kernel_rfl) (by rfl) (valOt5 y q R S v ta tc m) (fun _ => Kp [(g6, B32 (bdig q), 22), (g5, B32 (bdig y), 22), (b2, B64 (bdig (two R S)), 26), (bN, B32 (bdig n), 22), (bB, B32 (bdig b), 22), (bA, B32 (bdig a), 22)] w) hK.drew ?_ ?_
  · intro L ac wc i o hF hLi ho hd K hK
    rcases i with _ | _ | _ | _ | _ | _ | _ | _ | _ | _ | _ | _ | _ | _ | _ | _ | i
    · have ho' := ho
      obtain rfl := Option.some.inj ho
      have f11 : ac.tmps.getD 11 undef = .pointer (some ⟨g6, 0, none⟩) := slotv hF 0 hLi 11 (by kernel_rfl)
      refine step_do ho' (wanted_free rfl) ?_
      exact wp_load_own 22 (.tmp 11) rfl g6 f11 (B32 (bdig q)) _ 22 (hF.j.at g6 (B32 (bdig q)) 22 (.head _)) Tryz.underlying22 rfl (B32_info _) (hK _ _ (.inr rfl) hF.j)
    · have ho' := ho
      obtain rfl := Option.some.inj ho
      have f2 : ac.tmps.getD 2 undef = .slice ta m.length tc := slotv hF 1 hLi 2 (by kernel_rfl)
      refine step_do ho' (wanted_free rfl) ?_
      unfold Oper.wp
      go_simp
      exact hK _ _ (.inr rfl) hF.j
    · have ho' := ho
      obtain rfl := Option.some.inj ho
      have f9 : ac.tmps.getD 9 undef = .pointer (some ⟨b2, 0, none⟩) := slotv hF 2 hLi 9 (by kernel_rfl)
      refine step_do ho' (wanted_free rfl) ?_
      exact wp_load_own 26 (.tmp 9) rfl b2 f9 (B64 (bdig (two R S))) _ 26 (hF.j.at b2 (B64 (bdig (two R S))) 26 (.tail _ (.tail _ (.head _)))) Tryz.underlying26 rfl (B64_info _) (hK _ _ (.inr rfl) hF.j)
    · have ho' := ho
      obtain rfl := Option.some.inj ho
      have f25 : ac.tmps.getD 25 undef = .agg (B32 (bdig q)) := valv hF hd 0 rfl rfl (by kernel_rfl)
      have f26 : ac.tmps.getD 26 undef = .slice ta m.length tc := valv hF hd 1 rfl rfl (by kernel_rfl)
      have f27 : ac.tmps.getD 27 undef = .agg (B64 (bdig (two R S))) := valv hF hd 2 rfl rfl (by kernel_rfl)
      refine step_do ho' (wanted_free rfl) ?_
      unfold Oper.wp
      go_simp
      refine (hv1.out _ (F.keep _ _ hT hF.j.2) (hm.below hF.j.2)).mono ?_
      rintro e w' ⟨rfl, hB⟩
      exact hK _ _ (.inr rfl) ((hF.j).below hB)
    · have ho' := ho
      obtain rfl := Option.some.inj ho
      have f28 : ac.tmps.getD 28 undef = .bool true := valv hF hd 3 rfl rfl (by kernel_rfl)
      refine step_do ho' (wanted_free rfl) ?_
      unfold Oper.wp
      go_simp
      exact hK _ _ (.inr rfl) hF.j
    · have ho' := ho
      obtain rfl := Option.some.inj ho
      have f29 : ac.tmps.getD 29 undef = .bool false := valv hF hd 4 rfl rfl (by kernel_rfl)
      refine step_do ho' (wanted_free rfl) ?_
      unfold Oper.wp
      go_simp
      exact hK _ _ (.inr rfl) hF.j
    · have ho' := ho
      obtain rfl := Option.some.inj ho
      have f10 : ac.tmps.getD 10 undef = .pointer (some ⟨g5, 0, none⟩) := slotv hF 6 hLi 10 (by kernel_rfl)
      have fg : ac.tmps.getD 30 undef = .bool false := valv hF hd 5 rfl rfl (by kernel_rfl)
      refine step_do ho' (wanted_so (g := 5) rfl rfl rfl fg) ?_
      exact wp_load_own 22 (.tmp 10) rfl g5 f10 (B32 (bdig y)) _ 22 (hF.j.at g5 (B32 (bdig y)) 22 (.tail _ (.head _))) Tryz.underlying22 rfl (B32_info _) (hK _ _ (.inr rfl) hF.j)
    · have ho' := ho
      obtain rfl := Option.some.inj ho
      have f2 : ac.tmps.getD 2 undef = .slice ta m.length tc := slotv hF 7 hLi 2 (by kernel_rfl)
      have fg : ac.tmps.getD 30 undef = .bool false := valv hF hd 5 rfl rfl (by kernel_rfl)
      refine step_do ho' (wanted_so (g := 5) rfl rfl rfl fg) ?_
      unfold Oper.wp
      go_simp
      exact hK _ _ (.inr rfl) hF.j
    · have ho' := ho
      obtain rfl := Option.some.inj ho
      have f9 : ac.tmps.getD 9 undef = .pointer (some ⟨b2, 0, none⟩) := slotv hF 8 hLi 9 (by kernel_rfl)
      have fg : ac.tmps.getD 30 undef = .bool false := valv hF hd 5 rfl rfl (by kernel_rfl)
      refine step_do ho' (wanted_so (g := 5) rfl rfl rfl fg) ?_
      exact wp_load_own 26 (.tmp 9) rfl b2 f9 (B64 (bdig (two R S))) _ 26 (hF.j.at b2 (B64 (bdig (two R S))) 26 (.tail _ (.tail _ (.head _)))) Tryz.underlying26 rfl (B64_info _) (hK _ _ (.inr rfl) hF.j)
    · have ho' := ho
      obtain rfl := Option.some.inj ho
      have f31 : ac.tmps.getD 31 undef = .agg (B32 (bdig y)) := valv hF hd 6 rfl rfl (by kernel_rfl)
      have f32 : ac.tmps.getD 32 undef = .slice ta m.length tc := valv hF hd 7 rfl rfl (by kernel_rfl)
      have f33 : ac.tmps.getD 33 undef = .agg (B64 (bdig (two R S))) := valv hF hd 8 rfl rfl (by kernel_rfl)
      have fg : ac.tmps.getD 30 undef = .bool false := valv hF hd 5 rfl rfl (by kernel_rfl)
      refine step_do ho' (wanted_so (g := 5) rfl rfl rfl fg) ?_
      unfold Oper.wp
      go_simp
      refine (hv2.out _ (F.keep _ _ hT hF.j.2) (hm.below hF.j.2)).mono ?_
      rintro e w' ⟨rfl, hB⟩
      exact hK _ _ (.inr rfl) ((hF.j).below hB)
    · have ho' := ho
      obtain rfl := Option.some.inj ho
      have f10 : ac.tmps.getD 10 undef = .pointer (some ⟨g5, 0, none⟩) := slotv hF 10 hLi 10 (by kernel_rfl)
      have fg : ac.tmps.getD 30 undef = .bool false := valv hF hd 5 rfl rfl (by kernel_rfl)
      refine step_do ho' (wanted_so (g := 5) rfl rfl rfl fg) ?_
      exact wp_load_own 22 (.tmp 10) rfl g5 f10 (B32 (bdig y)) _ 22 (hF.j.at g5 (B32 (bdig y)) 22 (.tail _ (.head _))) Tryz.underlying22 rfl (B32_info _) (hK _ _ (.inr rfl) hF.j)
    · have ho' := ho
      obtain rfl := Option.some.inj ho
      have f2 : ac.tmps.getD 2 undef = .slice ta m.length tc := slotv hF 11 hLi 2 (by kernel_rfl)
      have fg : ac.tmps.getD 30 undef = .bool false := valv hF hd 5 rfl rfl (by kernel_rfl)
      refine step_do ho' (wanted_so (g := 5) rfl rfl rfl fg) ?_
      unfold Oper.wp
      go_simp
      exact hK _ _ (.inr rfl) hF.j
    · have ho' := ho
      obtain rfl := Option.some.inj ho
      have f9 : ac.tmps.getD 9 undef = .pointer (some ⟨b2, 0, none⟩) := slotv hF 12 hLi 9 (by kernel_rfl)
      have fg : ac.tmps.getD 30 undef = .bool false := valv hF hd 5 rfl rfl (by kernel_rfl)
      refine step_do ho' (wanted_so (g := 5) rfl rfl rfl fg) ?_
      exact wp_load_own 26 (.tmp 9) rfl b2 f9 (B64 (bdig (two R S))) _ 26 (hF.j.at b2 (B64 (bdig (two R S))) 26 (.tail _ (.tail _ (.head _)))) Tryz.underlying26 rfl (B64_info _) (hK _ _ (.inr rfl) hF.j)
    · have ho' := ho
      obtain rfl := Option.some.inj ho
      have f35 : ac.tmps.getD 35 undef = .agg (B32 (bdig y)) := valv hF hd 10 rfl rfl (by kernel_rfl)
      have f36 : ac.tmps.getD 36 undef = .slice ta m.length tc := valv hF hd 11 rfl rfl (by kernel_rfl)
      have f37 : ac.tmps.getD 37 undef = .agg (B64 (bdig (two R S))) := valv hF hd 12 rfl rfl (by kernel_rfl)
      have fg : ac.tmps.getD 30 undef = .bool false := valv hF hd 5 rfl rfl (by kernel_rfl)
      refine step_do ho' (wanted_so (g := 5) rfl rfl rfl fg) ?_
      unfold Oper.wp
      go_simp
      refine (hv3.out _ (hm.below hF.j.2)).mono ?_
      rintro e w' ⟨rfl, hB⟩
      exact hK _ _ (.inr rfl) ((hF.j).below hB)
    · have ho' := ho
      obtain rfl := Option.some.inj ho
      have f34 : ac.tmps.getD 34 undef = .bool v := valv hF hd 9 rfl rfl (by kernel_rfl)
      have f38 : ac.tmps.getD 38 undef = .bool v := valv hF hd 13 rfl rfl (by kernel_rfl)
      have fg : ac.tmps.getD 30 undef = .bool false := valv hF hd 5 rfl rfl (by kernel_rfl)
      refine step_do ho' (wanted_so (g := 5) rfl rfl rfl fg) ?_
      unfold Oper.wp
      go_simp
      exact hK _ _ (.inr rfl) hF.j
    · have ho' := ho
      obtain rfl := Option.some.inj ho
      have f30 : ac.tmps.getD 30 undef = .bool false := valv hF hd 5 rfl rfl (by kernel_rfl)
      have f39 : ac.tmps.getD 39 undef = .bool false := valv hF hd 14 rfl rfl (by kernel_rfl)
      refine step_do ho' (wanted_free rfl) ?_
      unfold Oper.wp
      go_simp
      exact hK _ _ (.inr rfl) hF.j
    · cases ho
  intro L V7 hL hKq
  have hK : Kp [(g6, B32 (bdig q), 22), (g5, B32 (bdig y), 22), (b2, B64 (bdig (two R S)), 26), (bN, B32 (bdig n), 22), (bB, B32 (bdig b), 22), (bA, B32 (bdig a), 22)] w V7 := hKq
  clear hKq hL
  simp only [putAll, valOt5, Act.put, List.setIfInBounds_toArray, List.set_cons_succ, List.set_cons_zero]
  go_upto_region 7 with fail
  refine wp_region_told 90 (by kernel_rfl) (by kernel_rfl) (by rfl) (factOt7 R S) (fun L vs => MkN 2 [(g6, B32 (bdig q), 22), (g5, B32 (bdig y), 22), (b2, B64 (bdig (two R S)), 26), (bN, B32 (bdig n), 22), (bB, B32 (bdig b), 22), (bA, B32 (bdig a), 22)] w (pick2 (B64 fun _ => 0) (B64 fun _ => 0)) (pick2 (B64 (bdig (two R S))) (B64 (bdig (two R S)))) (pick2 (26) (26)) (fun i => L (2 + i)) (fun i => L (4 + i)) (fun i => vs (2 + i))) (fun _ => MkN.drew hK (fun _ _ => rfl)) ?_ ?_
  · intro L vs ac wc i o hF hLi ho hd K hK
    rcases i with _ | _ | _ | _ | _ | _ | i
    · have ho' := ho
      obtain rfl := Option.some.inj ho
      have f9 : ac.tmps.getD 9 undef = .pointer (some ⟨b2, 0, none⟩) := slott hF 0 hLi 9 (by kernel_rfl)
      refine step_do ho' (wanted_free rfl) ?_
      exact wp_load_own 26 (.tmp 9) rfl b2 f9 (B64 (bdig (two R S))) _ 26 (hF.j.1.at b2 (B64 (bdig (two R S))) 26 (.tail _ (.tail _ (.head _)))) Tryz.underlying26 rfl (B64_info _) (hK _ _ (.inr rfl) (hF.j.congr (fun i hi => if_off (by decide) hi) (fun i hi => if_off (by decide) hi) (fun i hi => if_off (by decide) hi)))
    · have ho' := ho
      obtain rfl := Option.some.inj ho
      have f9 : ac.tmps.getD 9 undef = .pointer (some ⟨b2, 0, none⟩) := slott hF 1 hLi 9 (by kernel_rfl)
      refine step_do ho' (wanted_free rfl) ?_
      exact wp_load_own 26 (.tmp 9) rfl b2 f9 (B64 (bdig (two R S))) _ 26 (hF.j.1.at b2 (B64 (bdig (two R S))) 26 (.tail _ (.tail _ (.head _)))) Tryz.underlying26 rfl (B64_info _) (hK _ _ (.inr rfl) (hF.j.congr (fun i hi => if_off (by decide) hi) (fun i hi => if_off (by decide) hi) (fun i hi => if_off (by decide) hi)))
    · have ho' := ho
      obtain rfl := Option.some.inj ho
      refine step_do ho' (wanted_free rfl) ?_
      have hs := notyett hF 2 hLi 4 rfl (by kernel_rfl)
      unfold Oper.wp
      go_simp
      exact hK _ _ (.inr ⟨_, rfl⟩) (hF.j.alloc 0 (fun i _ hne => if_oth (k := 0) rfl hne) (fun i hi => if_off (by decide) hi) (fun i _ hne => if_oth (k := 0) rfl hne) rfl hs)
    · have ho' := ho
      obtain rfl := Option.some.inj ho
      refine step_do ho' (wanted_free rfl) ?_
      have hs := notyett hF 3 hLi 5 rfl (by kernel_rfl)
      unfold Oper.wp
      go_simp
      exact hK _ _ (.inr ⟨_, rfl⟩) (hF.j.alloc 1 (fun i _ hne => if_oth (k := 1) rfl hne) (fun i hi => if_off (by decide) hi) (fun i _ hne => if_oth (k := 1) rfl hne) rfl hs)
    · have ho' := ho
      obtain rfl := Option.some.inj ho
      have f41 : ac.tmps.getD 41 undef = .agg (B64 (bdig (two R S))) := (factt hF hd 0 rfl rfl (by kernel_rfl)).1.trans (factt hF hd 0 rfl rfl (by kernel_rfl)).2
      refine step_do ho' (wanted_free rfl) ?_
      obtain ⟨fg, gq, hg⟩ := factt hF hd 2 rfl rfl (by kernel_rfl)
      have hm_ := dep hd 2 (by kernel_rfl)
      have hj := hF.j
      rw [hg] at fg
      have hj2 := hj.at (k := 0) (by decide) hm_ hg hLi
      refine wp_store_own 26 (.tmp 12) (.tmp 41) rfl gq (B64 (bdig (two R S))) fg f41 hj2.2.2 (B64_sizes _ _) (B64_info _) (B64_one _) rfl ?_
      exact hK undef _ (.inl rfl) (hj.storeA (k := 0) (A := B64 (bdig (two R S))) rfl (by decide) hm_ hg hLi (B64_sizes _ _) (fun i hi => if_off (by decide) hi) (fun i _ hne => if_oth (k := 0) rfl hne) (fun i hi => if_off (by decide) hi) rfl)
    · have ho' := ho
      obtain rfl := Option.some.inj ho
      have f42 : ac.tmps.getD 42 undef = .agg (B64 (bdig (two R S))) := (factt hF hd 1 rfl rfl (by kernel_rfl)).1.trans (factt hF hd 1 rfl rfl (by kernel_rfl)).2
      refine step_do ho' (wanted_free rfl) ?_
      obtain ⟨fg, gq, hg⟩ := factt hF hd 3 rfl rfl (by kernel_rfl)
      have hm_ := dep hd 3 (by kernel_rfl)
      have hj := hF.j
      rw [hg] at fg
      have hj2 := hj.at (k := 1) (by decide) hm_ hg hLi
      refine wp_store_own 26 (.tmp 13) (.tmp 42) rfl gq (B64 (bdig (two R S))) fg f42 hj2.2.2 (B64_sizes _ _) (B64_info _) (B64_one _) rfl ?_
      exact hK undef _ (.inl rfl) (hj.storeA (k := 1) (A := B64 (bdig (two R S))) rfl (by decide) hm_ hg hLi (B64_sizes _ _) (fun i hi => if_off (by decide) hi) (fun i _ hne => if_oth (k := 1) rfl hne) (fun i hi => if_off (by decide) hi) rfl)
    · cases ho
  intro L vs V8 hL hJ hf
  obtain ⟨g9, hgg9⟩ := hf 2 _ _ rfl rfl
  obtain ⟨le0, apg9, owng9⟩ := hJ.gotA (k := 0) (A := B64 (bdig (two R S))) rfl (by decide) (hL 2 (by decide)) hgg9 (hL 4 (by decide))
  have le_g9 := show Hid _ from le0
  clear le0
  obtain ⟨g10, hgg10⟩ := hf 3 _ _ rfl rfl
  obtain ⟨le0, apg10, owng10⟩ := hJ.gotA (k := 1) (A := B64 (bdig (two R S))) rfl (by decide) (hL 3 (by decide)) hgg10 (hL 5 (by decide))
  have le_g10 := show Hid _ from le0
  clear le0
  have ne_g9_g10 : Hid (g9 ≠ g10) := hJ.apart (i := 0) (j := 1) (by decide) (by decide) (by decide) (hL 2 (by decide)) (hL 3 (by decide)) hgg9 hgg10
  have ne_g6_g9 : Hid (g6 ≠ g9) := apg9 (g6, B32 (bdig q), 22) (.head _)
  have ne_g5_g9 : Hid (g5 ≠ g9) := apg9 (g5, B32 (bdig y), 22) (.tail _ (.head _))
  have ne_b2_g9 : Hid (b2 ≠ g9) := apg9 (b2, B64 (bdig (two R S)), 26) (.tail _ (.tail _ (.head _)))
  have ne_bN_g9 : Hid (bN ≠ g9) := apg9 (bN, B32 (bdig n), 22) (.tail _ (.tail _ (.tail _ (.head _))))
  have ne_bB_g9 : Hid (bB ≠ g9) := apg9 (bB, B32 (bdig b), 22) (.tail _ (.tail _ (.tail _ (.tail _ (.head _)))))
  have ne_bA_g9 : Hid (bA ≠ g9) := apg9 (bA, B32 (bdig a), 22) (.tail _ (.tail _ (.tail _ (.tail _ (.tail _ (.head _))))))
  have ne_g6_g10 : Hid (g6 ≠ g10) := apg10 (g6, B32 (bdig q), 22) (.head _)
  have ne_g5_g10 : Hid (g5 ≠ g10) := apg10 (g5, B32 (bdig y), 22) (.tail _ (.head _))
  have ne_b2_g10 : Hid (b2 ≠ g10) := apg10 (b2, B64 (bdig (two R S)), 26) (.tail _ (.tail _ (.head _)))
  have ne_bN_g10 : Hid (bN ≠ g10) := apg10 (bN, B32 (bdig n), 22) (.tail _ (.tail _ (.tail _ (.head _))))
  have ne_bB_g10 : Hid (bB ≠ g10) := apg10 (bB, B32 (bdig b), 22) (.tail _ (.tail _ (.tail _ (.tail _ (.head _)))))
  have ne_bA_g10 : Hid (bA ≠ g10) := apg10 (bA, B32 (bdig a), 22) (.tail _ (.tail _ (.tail _ (.tail _ (.tail _ (.head _))))))
  have hK : Kp [(g10, B64 (bdig (two R S)), 26), (g9, B64 (bdig (two R S)), 26), (g6, B32 (bdig q), 22), (g5, B32 (bdig y), 22), (b2, B64 (bdig (two R S)), 26), (bN, B32 (bdig n), 22), (bB, B32 (bdig b), 22), (bA, B32 (bdig a), 22)] w V8 := ((hJ.1.cons owng9).cons owng10)
  have e0 : vs 0 = _ := hf 0 _ _ rfl rfl
  have e1 : vs 1 = _ := hf 1 _ _ rfl rfl
  simp only [putAll, Nat.zero_add, Nat.reduceAdd, e0, e1, hgg9, hgg10, Act.put, List.setIfInBounds_toArray, List.set_cons_succ, List.set_cons_zero]
  clear hJ hf hL e0 e1 hgg9 hgg10 apg9 apg10 owng9 owng10
  have hK : Kp [(g10, B64 (bdig (two R S)), 26), (g9, B64 (bdig (two R S)), 26), (g6, B32 (bdig q), 22), (g5, B32 (bdig y), 22), (b2, B64 (bdig (two R S)), 26), (bN, B32 (bdig n), 22), (bB, B32 (bdig b), 22), (bA, B32 (bdig a), 22)] w V8 := ((((((((hK.none.cons (hK.at bA (B32 (bdig a)) 22 (.tail _ (.tail _ (.tail _ (.tail _ (.tail _ (.tail _ (.tail _ (.head _)))))))))).cons (hK.at bB (B32 (bdig b)) 22 (.tail _ (.tail _ (.tail _ (.tail _ (.tail _ (.tail _ (.head _))))))))).cons (hK.at bN (B32 (bdig n)) 22 (.tail _ (.tail _ (.tail _ (.tail _ (.tail _ (.head _)))))))).cons (hK.at b2 (B64 (bdig (two R S))) 26 (.tail _ (.tail _ (.tail _ (.tail _ (.head _))))))).cons (hK.at g5 (B32 (bdig y)) 22 (.tail _ (.tail _ (.tail _ (.head _)))))).cons (hK.at g6 (B32 (bdig q)) 22 (.tail _ (.tail _ (.head _))))).cons (hK.at g9 (B64 (bdig (two R S))) 26 (.tail _ (.head _)))).cons (hK.at g10 (B64 (bdig (two R S))) 26 (.head _)))
  go_wp2_with fail
  go_loopw [14] (fun ii wr => ∃ (k : Nat) (f g : Nat → Nat), k ≤ 32 ∧ ii = .int .i64 (k : Int) ∧ (∀ j, j < 64 → f j = if j < k then bdig n j else bdig (two R S) j) ∧ (∀ j, j < 64 → g j = if 32 ≤ j ∧ j < 32 + k then bdig n (j - 32) else bdig (two R S) j) ∧ Kp [(g10, B64 g, 26), (g9, B64 f, 26), (g6, B32 (bdig q), 22), (g5, B32 (bdig y), 22), (b2, B64 (bdig (two R S)), 26), (bN, B32 (bdig n), 22), (bB, B32 (bdig b), 22), (bA, B32 (bdig a), 22)] w wr) (fun ii _ => 32 - (intOf ii).toNat)
  case atStart => exact ⟨0, bdig (two R S), bdig (two R S), by omega, rfl, fun j hj => by rw [if_neg (by omega)], fun j hj => by rw [if_neg (by omega)], hK⟩
  case round =>
    clear hK
    obtain ⟨i, f, g, hi, rfl, hf, hg, hK⟩ := hrel
    replace hf := show Hid _ from hf
    replace hg := show Hid _ from hg
    have hi0 : (0 : Int) ≤ (i : Int) := by omega
    by_cases hlt : i < 32
    · have hii : (i : Int) < 32 := by omega
      obtain ⟨u, Hu⟩ : ∃ u, Hid (bdig n i = u) := ⟨_, rfl⟩
      have c1 : wr.cell? ⟨bN, i, none⟩ = some (.int .u8 (u : Int)) := by have := (hK.at bN (B32 (bdig n)) 22 (.tail _ (.tail _ (.tail _ (.tail _ (.tail _ (.head _))))))).cell (B32_at (bdig n) i hlt); rw [Hu.out] at this; exact this
      have c3 := (hK.at g9 (B64 f) 26 (.tail _ (.head _))).cell (B64_at f i (by omega))
      have d3 := (hK.at g9 (B64 f) 26 (.tail _ (.head _))).frozen i
      have c4 := (hK.at g10 (B64 g) 26 (.head _)).cell (B64_at g (32 + i) (by omega))
      have d4 := (hK.at g10 (B64 g) 26 (.head _)).frozen (32 + i)
      have nq := ne_g9_g10.out
      have h32 : (32 : Int) + (i : Int) < 64 := by omega
      have h64 : (i : Int) < 64 := by omega
      have n1 := ne_bN_g9.out
      have n2 := ne_bN_g10.out
      have n3 := Ne.symm n1
      have n4 := Ne.symm n2
      go_wp2_with fail
      go_region
      have hK : Kp [(g9, B64 f, 26), (g10, B64 g, 26), (g6, B32 (bdig q), 22), (g5, B32 (bdig y), 22), (b2, B64 (bdig (two R S)), 26), (bN, B32 (bdig n), 22), (bB, B32 (bdig b), 22), (bA, B32 (bdig a), 22)] w wr := ((((((((hK.none.cons (hK.at bA (B32 (bdig a)) 22 (.tail _ (.tail _ (.tail _ (.tail _ (.tail _ (.tail _ (.tail _ (.head _)))))))))).cons (hK.at bB (B32 (bdig b)) 22 (.tail _ (.tail _ (.tail _ (.tail _ (.tail _ (.tail _ (.head _))))))))).cons (hK.at bN (B32 (bdig n)) 22 (.tail _ (.tail _ (.tail _ (.tail _ (.tail _ (.head _)))))))).cons (hK.at b2 (B64 (bdig (two R S))) 26 (.tail _ (.tail _ (.tail _ (.tail _ (.head _))))))).cons (hK.at g5 (B32 (bdig y)) 22 (.tail _ (.tail _ (.tail _ (.head _)))))).cons (hK.at g6 (B32 (bdig q)) 22 (.tail _ (.tail _ (.head _))))).cons (hK.at g10 (B64 g) 26 (.head _))).cons (hK.at g9 (B64 f) 26 (.tail _ (.head _))))
      have hK := Kp.setCell (i := i) (v := .int .u8 (u : Int)) hK (by simp only [List.forall_mem_cons, List.not_mem_nil, false_implies, implies_true, and_true]; exact ⟨(Ne.symm ne_g9_g10.out), ne_g6_g9.out, ne_g5_g9.out, ne_b2_g9.out, ne_bN_g9.out, ne_bB_g9.out, ne_bA_g9.out⟩) le_g9.out
      rw [B64_set f i u (by omega)] at hK
      have hK : Kp [(g10, B64 g, 26), (g9, B64 (upd f i u), 26), (g6, B32 (bdig q), 22), (g5, B32 (bdig y), 22), (b2, B64 (bdig (two R S)), 26), (bN, B32 (bdig n), 22), (bB, B32 (bdig b), 22), (bA, B32 (bdig a), 22)] w _ := ((((((((hK.none.cons (hK.at bA (B32 (bdig a)) 22 (.tail _ (.tail _ (.tail _ (.tail _ (.tail _ (.tail _ (.tail _ (.head _)))))))))).cons (hK.at bB (B32 (bdig b)) 22 (.tail _ (.tail _ (.tail _ (.tail _ (.tail _ (.tail _ (.head _))))))))).cons (hK.at bN (B32 (bdig n)) 22 (.tail _ (.tail _ (.tail _ (.tail _ (.tail _ (.head _)))))))).cons (hK.at b2 (B64 (bdig (two R S))) 26 (.tail _ (.tail _ (.tail _ (.tail _ (.head _))))))).cons (hK.at g5 (B32 (bdig y)) 22 (.tail _ (.tail _ (.tail _ (.head _)))))).cons (hK.at g6 (B32 (bdig q)) 22 (.tail _ (.tail _ (.head _))))).cons (hK.at g9 (B64 (upd f i u)) 26 (.head _))).cons (hK.at g10 (B64 g) 26 (.tail _ (.head _))))
      have hK := Kp.setCell (i := 32 + i) (v := .int .u8 (u : Int)) hK (by simp only [List.forall_mem_cons, List.not_mem_nil, false_implies, implies_true, and_true]; exact ⟨ne_g9_g10.out, ne_g6_g10.out, ne_g5_g10.out, ne_b2_g10.out, ne_bN_g10.out, ne_bB_g10.out, ne_bA_g10.out⟩) le_g10.out
      rw [B64_set g (32 + i) u (by omega)] at hK
      have hK := hK.drew
      clear c1 c3 c4 d3 d4
      go_wp2_with fail
      go_roundw
      case rel => exact ⟨i + 1, upd f i u, upd g (32 + i) u, by omega, by go_num, two_set_lo Hu.out hf.out, two_set_hi Hu.out hg.out, hK⟩
      case measure => simp [intOf]; omega
    · have hii : ¬ (i : Int) < 32 := by omega
      rw [two_done_lo lR.out ln.out hlt hi hf.out, two_done_hi lR.out hlt hg.out] at hK
      clear hf hg
      go_upto_region 12 with fail
      by_cases hpt : ∃ P : Pt E5, enc P = n
      · obtain ⟨P, HP⟩ := hpt
        replace HP := show Hid _ from HP
        go_wp2_with (refine wpList_load_own (by rfl) 22 (.tmp 7) (by rfl) bN (by rfl) (B32 (bdig n)) _ (hK.at bN (B32 (bdig n)) 22 (.tail _ (.tail _ (.tail _ (.tail _ (.tail _ (.head _))))))) Tryz.underlying22 (by rfl) (B32_info _) ?_)
        refine (F.checkA HP.out _ (F.keep _ _ hT hK.2)).mono ?_
        rintro e V11 ⟨rfl, bw⟩
        have hK := hK.below bw
        clear bw
        go_upto_region 14 with fail
        go_wp2_with (refine wpList_load_own (by rfl) 22 (.tmp 7) (by rfl) bN (by rfl) (B32 (bdig n)) _ (hK.at bN (B32 (bdig n)) 22 (.tail _ (.tail _ (.tail _ (.tail _ (.tail _ (.head _))))))) Tryz.underlying22 (by rfl) (B32_info _) ?_)
        obtain ⟨u0, Hu0⟩ : ∃ u, Hid (decide (n < LL) = u) := ⟨_, rfl⟩
        refine (F.scheckA ln.out Hu0.out _ (F.keep _ _ hT hK.2)).mono ?_
        rintro e V12 ⟨rfl, bw⟩
        have hK := hK.below bw
        clear bw
        cases u0
        · go_wp2_with (first
      | refine wpList_load_gd (by rfl) 22 (.tmp 11) (by rfl) g6 (by rfl) (B32 (bdig q)) _ (hK.at g6 (B32 (bdig q)) 22 (.tail _ (.tail _ (.head _)))) Tryz.underlying22 (by rfl) (B32_info _) ?_
      | refine wpList_load_gd (by rfl) 26 (.tmp 13) (by rfl) g10 (by rfl) (B64 (bdig (two R n))) _ (hK.at g10 (B64 (bdig (two R n))) 26 (.head _)) Tryz.underlying26 (by rfl) (B64_info _) ?_)
          refine (verify_false F lq.out lR.out ln.out hl1.out (signedB_low Hu0.out) _ (F.keep _ _ hT hK.2) (hm.below hK.2)).mono ?_
          rintro e V13 ⟨rfl, bw⟩
          have hK := hK.below bw
          clear bw
          go_wp2_with fail
          refine (bytes_is (hm.below hK.2) (hm.below hK.2)).mono ?_
          rintro e V14 ⟨rfl, bw⟩
          have hK := hK.below bw
          clear bw
          go_wp2_with fail
          refine (wakes_is F _ (F.keep _ _ hT hK.2)).mono ?_
          rintro e V15 ⟨rfl, bw⟩
          have hK := hK.below bw
          clear bw
          go_wp2
          go_ret
          exact ⟨rfl, hK.2⟩
        · go_wp2_with fail
          refine (bytes_is (hm.below hK.2) (hm.below hK.2)).mono ?_
          rintro e V16 ⟨rfl, bw⟩
          have hK := hK.below bw
          clear bw
          go_wp2_with fail
          refine (wakes_is F _ (F.keep _ _ hT hK.2)).mono ?_
          rintro e V17 ⟨rfl, bw⟩
          have hK := hK.below bw
          clear bw
          go_wp2
          go_ret
          exact ⟨rfl, hK.2⟩
      · have hnp : Hid (∀ P : Pt E5, enc P ≠ n) := fun P e => hpt ⟨P, e⟩
        clear hpt
        go_wp2_with (refine wpList_load_own (by rfl) 22 (.tmp 7) (by rfl) bN (by rfl) (B32 (bdig n)) _ (hK.at bN (B32 (bdig n)) 22 (.tail _ (.tail _ (.tail _ (.tail _ (.tail _ (.head _))))))) Tryz.underlying22 (by rfl) (B32_info _) ?_)
        refine (F.check_not n ln.out hnp.out _ (F.keep _ _ hT hK.2)).mono ?_
        rintro e V18 ⟨rfl, bw⟩
        have hK := hK.below bw
        clear bw
        go_wp2_with (first
      | refine wpList_load_gd (by rfl) 22 (.tmp 11) (by rfl) g6 (by rfl) (B32 (bdig q)) _ (hK.at g6 (B32 (bdig q)) 22 (.tail _ (.tail _ (.head _)))) Tryz.underlying22 (by rfl) (B32_info _) ?_
      | refine wpList_load_gd (by rfl) 26 (.tmp 12) (by rfl) g9 (by rfl) (B64 (bdig (two n S))) _ (hK.at g9 (B64 (bdig (two n S))) 26 (.tail _ (.head _))) Tryz.underlying26 (by rfl) (B64_info _) ?_)
        refine (verify_false F lq.out ln.out lS.out hl1.out (signedB_nor hnp.out) _ (F.keep _ _ hT hK.2) (hm.below hK.2)).mono ?_
        rintro e V19 ⟨rfl, bw⟩
        have hK := hK.below bw
        clear bw
        go_wp2_with (first
      | refine wpList_load_gd (by rfl) 22 (.tmp 7) (by rfl) bN (by rfl) (B32 (bdig n)) _ (hK.at bN (B32 (bdig n)) 22 (.tail _ (.tail _ (.tail _ (.tail _ (.tail _ (.head _))))))) Tryz.underlying22 (by rfl) (B32_info _) ?_
      | refine wpList_load_gd (by rfl) 26 (.tmp 9) (by rfl) b2 (by rfl) (B64 (bdig (two R S))) _ (hK.at b2 (B64 (bdig (two R S))) 26 (.tail _ (.tail _ (.tail _ (.tail _ (.head _)))))) Tryz.underlying26 (by rfl) (B64_info _) ?_)
        refine (verify_false F ln.out lR.out lS.out hl1.out (signedB_nop hnp.out) _ (F.keep _ _ hT hK.2) (hm.below hK.2)).mono ?_
        rintro e V20 ⟨rfl, bw⟩
        have hK := hK.below bw
        clear bw
        go_upto_region 14 with fail
        go_wp2_with (refine wpList_load_own (by rfl) 22 (.tmp 7) (by rfl) bN (by rfl) (B32 (bdig n)) _ (hK.at bN (B32 (bdig n)) 22 (.tail _ (.tail _ (.tail _ (.tail _ (.tail _ (.head _))))))) Tryz.underlying22 (by rfl) (B32_info _) ?_)
        obtain ⟨u0, Hu0⟩ : ∃ u, Hid (decide (n < LL) = u) := ⟨_, rfl⟩
        refine (F.scheckA ln.out Hu0.out _ (F.keep _ _ hT hK.2)).mono ?_
        rintro e V21 ⟨rfl, bw⟩
        have hK := hK.below bw
        clear bw
        cases u0
        · go_wp2_with (first
      | refine wpList_load_gd (by rfl) 22 (.tmp 11) (by rfl) g6 (by rfl) (B32 (bdig q)) _ (hK.at g6 (B32 (bdig q)) 22 (.tail _ (.tail _ (.head _)))) Tryz.underlying22 (by rfl) (B32_info _) ?_
      | refine wpList_load_gd (by rfl) 26 (.tmp 13) (by rfl) g10 (by rfl) (B64 (bdig (two R n))) _ (hK.at g10 (B64 (bdig (two R n))) 26 (.head _)) Tryz.underlying26 (by rfl) (B64_info _) ?_)
          refine (verify_false F lq.out lR.out ln.out hl1.out (signedB_low Hu0.out) _ (F.keep _ _ hT hK.2) (hm.below hK.2)).mono ?_
          rintro e V22 ⟨rfl, bw⟩
          have hK := hK.below bw
          clear bw
          go_wp2_with fail
          refine (bytes_is (hm.below hK.2) (hm.below hK.2)).mono ?_
          rintro e V23 ⟨rfl, bw⟩
          have hK := hK.below bw
          clear bw
          go_wp2_with fail
          refine (wakes_is F _ (F.keep _ _ hT hK.2)).mono ?_
          rintro e V24 ⟨rfl, bw⟩
          have hK := hK.below bw
          clear bw
          go_wp2
          go_ret
          exact ⟨rfl, hK.2⟩
        · go_wp2_with fail
          refine (bytes_is (hm.below hK.2) (hm.below hK.2)).mono ?_
          rintro e V25 ⟨rfl, bw⟩
          have hK := hK.below bw
          clear bw
          go_wp2_with fail
          refine (wakes_is F _ (F.keep _ _ hT hK.2)).mono ?_
          rintro e V26 ⟨rfl, bw⟩
          have hK := hK.below bw
          clear bw
          go_wp2
          go_ret
          exact ⟨rfl, hK.2⟩
end Go.Proofs.YtfkcphbbabaefaaGreatDoor
