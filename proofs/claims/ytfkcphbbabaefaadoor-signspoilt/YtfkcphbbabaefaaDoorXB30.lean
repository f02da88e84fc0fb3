/- Of the texts V2, V3: what the card of this claim reaches. -/
import Derived.Test.YtfkcphbbabaefaaDoorXB29
import Derived.Test.YtfkcphbbabaefaaDoorXB12
import Derived.Test.YtfkcphbbabaefaaDoorXB3
namespace Go.Proofs.YtfkcphbbabaefaaDoor
open Go Go.RowKit
structure N4.ok (r : N4) : Prop where
  x : r.X < R256
  y : r.Y < R256
  z : r.Z < R256
  t : r.T < R256
theorem plus4_ok (p q : N4) : (plus4 p q).ok := ⟨lt_of_mod, lt_of_mod, lt_of_mod, lt_of_mod⟩
theorem zero4_ok : zero4.ok := ⟨by decide, by decide, by decide, by decide⟩
theorem dd_R : dd < R256 := Nat.lt_trans dd_lt (by decide)
theorem plus_any (p q : N4) (hp : p.ok) (hq : q.ok) (w : World) :
    Calls Tryd.prog 56 #[.agg (PA p), .agg (PA q), .agg (numA dd)] w fun x w' => x = .returned (.agg (PA (plus4 p q))) ∧ Below w.heap.size w w' :=
  plus_nat hp.x hp.y hp.z hp.t hq.x hq.y hq.z hq.t dd_R rfl w
theorem mul4_bit0 {p o : N4} {n i : Nat} (hi : i < 256) (ho : o = mul4 p (256 - (i + 1)) (n / 2 ^ (i + 1))) (hb : n / 2 ^ i % 2 = 0) : plus4 o o = mul4 p (256 - i) (n / 2 ^ i) := by
  rw [show 256 - i = 256 - (i + 1) + 1 by omega, mul4, if_neg (by omega), Nat.div_div_eq_div_mul, ← Nat.pow_succ, ← ho]
theorem mul4_bit1 {p o : N4} {n i : Nat} (hi : i < 256) (ho : o = mul4 p (256 - (i + 1)) (n / 2 ^ (i + 1))) (hb : n / 2 ^ i % 2 = 1) : plus4 (plus4 o o) p = mul4 p (256 - i) (n / 2 ^ i) := by
  rw [show 256 - i = 256 - (i + 1) + 1 by omega, mul4, if_pos hb, Nat.div_div_eq_div_mul, ← Nat.pow_succ, ← ho]
theorem mul4_from (p : N4) (n : Nat) : zero4 = mul4 p (256 - 256) (n / 2 ^ 256) := by rw [Nat.sub_self, mul4]
set_option maxRecDepth 100000 in
set_option maxHeartbeats 2000000 in
theorem multiple_any (n : Nat) (hn : n < R256) (p : N4) (hp : p.ok) (w : World) : Calls Tryd.prog 52 #[.agg (numA n), .agg (PA p)] w fun x w' => x = .returned (.agg (PA (mul4 p 256 n))) ∧ Below w.heap.size w w' := by
  obtain ⟨r, Hr⟩ : ∃ r, Hid (mul4 p 256 n = r) := ⟨_, rfl⟩
  have Hp := show Hid _ from hp
  have Hn := show Hid _ from hn
  clear hp hn
  rw [Hr.out]
  have hz := (zero_of_info zeroLit).1
  have hzP := (zero_of_info zeroPA).1
  go_enter Tryd.func52, Tryd.ntmps52
  go_upto_region 1 with fail
  have hK := (((Kp.nil w).alloc (numA n) 35).alloc (PA p) 47).alloc (PA ⟨0, 0, 0, 0⟩) 47
  rw [World.size_alloc, World.size_alloc] at hK
  generalize ((w.alloc (.cells (numA n) 35)).alloc (.cells (PA p) 47)).alloc (.cells (PA ⟨0, 0, 0, 0⟩) 47) = W at *
  obtain ⟨bN, HN⟩ : ∃ b, Hid (w.heap.size = b) := ⟨_, rfl⟩
  obtain ⟨bP, HP⟩ : ∃ b, Hid (bN + 1 = b) := ⟨_, rfl⟩
  obtain ⟨bR, HR⟩ : ∃ b, Hid (bP + 1 = b) := ⟨_, rfl⟩
  have le_bR : Hid (w.heap.size ≤ bR) := by show _ ≤ _; have := HN.out; have := HP.out; have := HR.out; omega
  rw [HN.out, HP.out, HR.out] at hK ⊢
  go_wp2_with fail
  refine (d_any _).mono ?_
  rintro x w1 ⟨rfl, b1⟩
  have hK := hK.below b1
  go_upto_region 2 with (refine wpList_store_new (by rfl) 35 (.tmp 5) (.tmp 8) (by rfl) _ (numA dd) (by rfl) (by rfl) (numA_info _) (lit4_size _ _ _ _ _) (numA_one _) (by rfl) ?_)
  have hK := hK.alloc (numA dd) 35
  generalize w1.alloc (.cells (numA dd) 35) = W1 at *
  obtain ⟨bK, HB⟩ : ∃ b, Hid (w1.heap.size = b) := ⟨_, rfl⟩
  rw [HB.out] at hK ⊢
  go_wp2_with fail
  refine (zero_any _).mono ?_
  rintro x w2 ⟨rfl, b2⟩
  have hK := hK.below b2
  have ne1 := show Hid _ from fun z hz => Nat.ne_of_lt (hK.1 z hz).lt
  have leO := show Hid _ from hK.2.size
  go_upto_region 3 with (refine wpList_store_new (by rfl) 47 (.tmp 6) (.tmp 9) (by rfl) _ (PA zero4) (by rfl) (by rfl) (PA_info _) (PA_sizes _ _) (PA_one _) (by rfl) ?_)
  have hK := hK.alloc (PA zero4) 47
  generalize w2.alloc (.cells (PA zero4) 47) = W2 at *
  obtain ⟨bO, HO⟩ : ∃ b, Hid (w2.heap.size = b) := ⟨_, rfl⟩
  have leO : Hid (w.heap.size ≤ bO) := by show _ ≤ _; rw [← HO.out]; exact leO.out
  have nots : Hid (∀ z ∈ [(bK, numA dd, 35), (bR, PA ⟨0, 0, 0, 0⟩, 47), (bP, PA p, 47), (bN, numA n, 35)], z.1 ≠ bO) := by
    show ∀ _, _
    rw [← HO.out]; exact ne1.out
  rw [HO.out] at hK ⊢
  clear ne1 b1 b2
  go_wp2_with fail
  go_loopw [7] (fun ii wr => ∃ (j : Nat) (o : N4), j ≤ 256 ∧ ii = .int .i64 ((j : Int) - 1) ∧ Hid o.ok ∧ Hid (o = mul4 p (256 - j) (n / 2 ^ j)) ∧ Kp [(bO, PA o, 47), (bK, numA dd, 35), (bR, PA ⟨0, 0, 0, 0⟩, 47), (bP, PA p, 47), (bN, numA n, 35)] w wr) (fun ii _ => (intOf ii + 1).toNat)
  case atStart => exact ⟨256, zero4, by omega, rfl, zero4_ok, mul4_from p n, hK⟩
  case round =>
    obtain ⟨j, o, hj, rfl, ho, Ho, hKr⟩ := hrel
    cases j with
    | zero =>
      rw [show (((0 : Nat) : Int) - 1) = -1 from rfl]
      have Hend : Hid (o = r) := by
        show _ = _
        rw [Ho.out, Nat.pow_zero, Nat.div_one, ← Hr.out]
      go_upto_region 9 with fail
      go_wp2_with (first
        | refine wpList_load_own (by rfl) 47 (.tmp 6) (by rfl) bO (by rfl) (PA o) _ (hKr.at bO (PA o) 47 (.head _)) Tryd.underlying47 (by rfl) (PA_info _) ?_
        | refine wpList_store_own (by rfl) 47 (.tmp 4) (.tmp 32) (by rfl) bR 0 (PA o) (by rfl) (by rfl) (hKr.at bR (PA ⟨0, 0, 0, 0⟩) 47 (.tail _ (.tail _ (.head _)))) (Nat.le_refl _) (PA_info _) (PA_one _) (by rfl) ?_)
      refine bodyPost_ret (results_own Tryd.results52 _ _ bR (PA o) _ (by rfl) (own_setCells (hKr.at bR (PA ⟨0, 0, 0, 0⟩) 47 (.tail _ (.tail _ (.head _)))) (PA_sizes _ _)) Tryd.underlying47 rfl (PA_info _)) rfl ⟨by rw [Hend.out], ?_⟩
      exact Below.setCells _ _ _ _ le_bR.out hKr.2
    | succ i =>
      rw [show (((i + 1 : Nat) : Int) - 1) = (i : Int) by omega]
      have hi0 : (0 : Int) ≤ (i : Int) := by omega
      have hi1 : (i : Int) < 256 := by omega
      have hi2 : Hid (i < 256) := by show _ < _; omega
      go_upto_region 6 with fail
      go_wp2_with (first
        | refine wpList_load_own (by rfl) 47 (.tmp 6) (by rfl) bO (by rfl) (PA o) _ (hKr.at bO (PA o) 47 (.head _)) Tryd.underlying47 (by rfl) (PA_info _) ?_
        | refine wpList_load_own (by rfl) 35 (.tmp 5) (by rfl) bK (by rfl) (numA dd) _ (hKr.at bK (numA dd) 35 (.tail _ (.head _))) Tryd.underlying35 (by rfl) (numA_info _) ?_)
      refine (plus_any o o ho.out ho.out wr).mono ?_
      rintro x w1 ⟨rfl, hB1⟩
      have hK2 := hKr.below hB1
      obtain ⟨q, Hq⟩ : ∃ q, Hid (plus4 o o = q) := ⟨_, rfl⟩
      have hq : Hid q.ok := by show q.ok; rw [← Hq.out]; exact plus4_ok _ _
      rw [Hq.out]
      have hK3 := hK2.set (A' := PA q) nots.out leO.out (PA_sizes q o)
      go_upto_region 7 with (refine wpList_store_own (by rfl) 47 (.tmp 6) (.tmp 17) (by rfl) bO 0 (PA q) (by rfl) (by rfl) (hK2.at bO (PA o) 47 (.head _)) (Nat.le_refl _) (PA_info _) (PA_one _) (by rfl) ?_)
      generalize w1.setCells bO 0 (PA q).toList = W3 at *
      clear hK2 hB1 hKr hK
      have hdv : (i : Int).tdiv 64 = ((i / 64 : Nat) : Int) := by rw [Int.tdiv_eq_ediv_of_nonneg (by omega)]; omega
      have hmd : (i : Int).tmod 64 = ((i % 64 : Nat) : Int) := by rw [Int.tmod_eq_emod_of_nonneg (by omega)]; omega
      have hd4 : i / 64 < 4 := by omega
      have cE := (hK3.at bN (numA n) 35 (.tail _ (.tail _ (.tail _ (.tail _ (.head _)))))).cell (numA_at n (i / 64) hd4)
      have hbit := bit_u64 n i
      have hd40 : (0 : Int) ≤ ((i / 64 : Nat) : Int) := by omega
      have hd41 : ((i / 64 : Nat) : Int) < 4 := by omega
      have hm0 : (0 : Int) ≤ ((i % 64 : Nat) : Int) := by omega
      have hm1 : ((i % 64 : Nat) : Int) < 64 := by omega
      generalize dig n (i / 64) = d at *
      generalize i / 64 = D at *
      generalize i % 64 = M at *
      have hb2 : n / 2 ^ i % 2 = 0 ∨ n / 2 ^ i % 2 = 1 := by omega
      rcases hb2 with hb | hb
      · have Hst := show Hid _ from mul4_bit0 hi2.out Ho.out hb
        rw [hb] at hbit
        clear hb
        go_wp2_with fail
        exact ⟨⟨i, q, by omega, rfl, hq, by show _ = _; rw [← Hq.out]; exact Hst.out, hK3⟩, by simp [intOf]⟩
      · have Hst := show Hid _ from mul4_bit1 hi2.out Ho.out hb
        rw [hb] at hbit
        clear hb
        go_upto_region 8 with fail
        clear hbit cE hdv hmd
        go_wp2_with (first
          | refine wpList_load_own (by rfl) 47 (.tmp 6) (by rfl) bO (by rfl) (PA q) _ (hK3.at bO (PA q) 47 (.head _)) Tryd.underlying47 (by rfl) (PA_info _) ?_
          | refine wpList_load_own (by rfl) 47 (.tmp 3) (by rfl) bP (by rfl) (PA p) _ (hK3.at bP (PA p) 47 (.tail _ (.tail _ (.tail _ (.head _))))) Tryd.underlying47 (by rfl) (PA_info _) ?_
          | refine wpList_load_own (by rfl) 35 (.tmp 5) (by rfl) bK (by rfl) (numA dd) _ (hK3.at bK (numA dd) 35 (.tail _ (.head _))) Tryd.underlying35 (by rfl) (numA_info _) ?_)
        refine (plus_any q p hq.out Hp.out W3).mono ?_
        rintro x w3 ⟨rfl, hB3⟩
        have hK4 := hK3.below hB3
        obtain ⟨q2, Hq2⟩ : ∃ q2, Hid (plus4 q p = q2) := ⟨_, rfl⟩
        have hq2 : Hid q2.ok := by show q2.ok; rw [← Hq2.out]; exact plus4_ok _ _
        rw [Hq2.out]
        have hK5 := hK4.set (A' := PA q2) nots.out leO.out (PA_sizes q2 q)
        go_upto_region 5 with (refine wpList_store_own (by rfl) 47 (.tmp 6) (.tmp 31) (by rfl) bO 0 (PA q2) (by rfl) (by rfl) (hK4.at bO (PA q) 47 (.head _)) (Nat.le_refl _) (PA_info _) (PA_one _) (by rfl) ?_)
        generalize w3.setCells bO 0 (PA q2).toList = W4 at *
        go_wp2_with fail
        exact ⟨⟨i, q2, by omega, rfl, hq2, by show _ = _; rw [← Hq2.out, ← Hq.out]; exact Hst.out, hK5⟩, by simp [intOf]⟩
end Go.Proofs.YtfkcphbbabaefaaDoor
namespace Go.Proofs.YtfkcphbbabaefaaDoor
open Go Go.RowKit
def enc4 (r : N4) : Nat := r.Y * finv r.Z % pp + HH * (r.X * finv r.Z % pp % 2)
def factEn (bP X Y zi x y : Nat) : Nat → Value → Prop
  | 0, v => v = .pointer (some ⟨bP, 0, none⟩)
  | 1, v => v = .agg (numA X)
  | 2, v => v = .agg (numA zi)
  | 3, v => v = .agg (numA x)
  | 4, v => v = .pointer (some ⟨bP, 4, none⟩)
  | 5, v => v = .agg (numA Y)
  | 6, v => v = .agg (numA zi)
  | 7, v => v = .agg (numA y)
  | 8, v => ∃ g, v = .pointer (some ⟨g, 0, none⟩)
  | 9, v => ∃ g, v = .pointer (some ⟨g, 0, none⟩)
  | _, _ => True
set_option maxRecDepth 100000 in
set_option maxHeartbeats 2000000 in
theorem encode_nat {X Y Z T : Nat} (hX : Hid (X < R256)) (hY : Hid (Y < R256)) (hZ : Hid (Z < R256)) (w : World) : Calls Tryd.prog 51 #[.agg (PA ⟨X, Y, Z, T⟩)] w fun e w' => e = .returned (.agg (B32 (bdig (enc4 ⟨X, Y, Z, T⟩)))) ∧ Below w.heap.size w w' := by
  have hz := (zero_of_info zeroLit).1
  have hzB := (zero_of_info zeroB32).1
  obtain ⟨zi, Hzi⟩ : ∃ x, Hid (finv Z = x) := ⟨_, rfl⟩
  have hzi : Hid (zi < R256) := by show _ < _; rw [← Hzi.out]; exact finv_R _
  obtain ⟨x, Hx⟩ : ∃ x, Hid (X * zi % pp = x) := ⟨_, rfl⟩
  obtain ⟨y, Hy⟩ : ∃ x, Hid (Y * zi % pp = x) := ⟨_, rfl⟩
  have hyH : Hid (y < HH) := by show _ < _; rw [← Hy.out]; exact Nat.lt_trans (Nat.mod_lt _ pp_pos) pp_HH
  have Henc : Hid (enc4 ⟨X, Y, Z, T⟩ = y + HH * (x % 2)) := by show _ = _; rw [← Hx.out, ← Hy.out, ← Hzi.out]; rfl
  rw [Henc.out]
  clear Henc
  go_enter Tryd.func51, Tryd.ntmps51
  go_upto_region 1 with fail
  have hK := ((Kp.nil w).alloc (PA ⟨X, Y, Z, T⟩) 47).alloc (B32 fun _ => 0) 22
  rw [World.size_alloc] at hK
  generalize (w.alloc (.cells (PA ⟨X, Y, Z, T⟩) 47)).alloc (.cells (B32 fun _ => 0) 22) = W at *
  obtain ⟨bP, HbP⟩ : ∃ b, Hid (w.heap.size = b) := ⟨_, rfl⟩
  obtain ⟨bR, HbR⟩ : ∃ b, Hid (bP + 1 = b) := ⟨_, rfl⟩
  have le_bP : Hid (w.heap.size ≤ bP) := by show _ ≤ _; have := HbP.out; omega
  have le_bR : Hid (w.heap.size ≤ bR) := by show _ ≤ _; have := HbP.out; have := HbR.out; omega
  have ne_bP_bR : Hid (bP ≠ bR) := by show _ ≠ _; have := HbR.out; omega
  rw [HbP.out, HbR.out] at hK ⊢
  go_wp2_with (refine wpList_load_part (by rfl) 2 (by decide) (.tmp 7) (by rfl) bP (by rfl) (hK.at bP (PA ⟨X, Y, Z, T⟩) 47 (.tail _ (.head _))) ?_)
  refine (inv_at hZ.out Hzi.out _).mono ?_
  rintro e V1 ⟨rfl, bw⟩
  have hK := hK.below bw
  clear bw
  go_upto_region 2 with (refine wpList_store_new (by rfl) 35 (.tmp 3) (.tmp 9) (by rfl) _ (numA zi) (by rfl) (by rfl) (numA_info _) (lit4_size _ _ _ _ _) (numA_one _) (by rfl) ?_)
  have lt_bR := (hK.at bR (B32 fun _ => 0) 22 (.head _)).lt
  have lt_bP := (hK.at bP (PA ⟨X, Y, Z, T⟩) 47 (.tail _ (.head _))).lt
  have le_b2 := show Hid _ from hK.2.size
  have hK := hK.alloc (numA zi) 35
  generalize V1.alloc (.cells (numA zi) 35) = V3 at *
  obtain ⟨b2, Hb2⟩ : ∃ b, Hid (V1.heap.size = b) := ⟨_, rfl⟩
  have ne_bR_b2 : Hid (bR ≠ b2) := by show _ ≠ _; rw [← Hb2.out]; exact Nat.ne_of_lt lt_bR
  have ne_bP_b2 : Hid (bP ≠ b2) := by show _ ≠ _; rw [← Hb2.out]; exact Nat.ne_of_lt lt_bP
  have le_b2 : Hid (w.heap.size ≤ b2) := by show _ ≤ _; rw [← Hb2.out]; exact le_b2.out
  rw [Hb2.out] at hK ⊢
  clear lt_bR lt_bP
  obtain ⟨Af4, Af4_0, Af4_1⟩ : ∃ qf : Nat → Array Value, Hid (qf 0 = numA x) ∧ Hid (qf 1 = numA y) := ⟨fun qi => ([numA x, numA y] : List (Array Value)).getD qi #[], by show _ = _; simp, by show _ = _; simp⟩
  refine wp_region_told 29 (by kernel_rfl) (by kernel_rfl) (by rfl) (factEn bP X Y zi x y) (fun L vs => MkN 2 [(b2, numA zi, 35), (bR, B32 fun _ => 0, 22), (bP, PA ⟨X, Y, Z, T⟩, 47)] w (fun _ => numA 0) (Af4) (fun _ => 35) (fun i => L (8 + i)) (fun i => L (10 + i)) (fun i => vs (8 + i))) (fun _ => MkN.drew hK (fun _ _ => rfl)) ?_ ?_
  · intro L vs ac wc i o hF hLi ho hd K hK
    rcases i with _ | _ | _ | _ | _ | _ | _ | _ | _ | _ | _ | _ | i
    · have ho' := ho
      obtain rfl := Option.some.inj ho
      have f1 : ac.tmps.getD 1 undef = .pointer (some ⟨bP, 0, none⟩) := slott hF 0 hLi 1 (by kernel_rfl)
      refine step_do ho' (wanted_free rfl) ?_
      unfold Oper.wp
      go_simp
      exact hK _ _ (.inr rfl) (hF.j.congr (fun i hi => if_off (by decide) hi) (fun i hi => if_off (by decide) hi) (fun i hi => if_off (by decide) hi))
    · have ho' := ho
      obtain rfl := Option.some.inj ho
      have f10 : ac.tmps.getD 10 undef = .pointer (some ⟨bP, 0, none⟩) := (factt hF hd 0 rfl rfl (by kernel_rfl)).1.trans (factt hF hd 0 rfl rfl (by kernel_rfl)).2
      refine step_do ho' (wanted_free rfl) ?_
      exact wp_load_part 0 (by decide) (.tmp 10) rfl bP f10 (hF.j.1.at bP (PA ⟨X, Y, Z, T⟩) 47 (.tail _ (.tail _ (.head _)))) (hK _ _ (.inr rfl) (hF.j.congr (fun i hi => if_off (by decide) hi) (fun i hi => if_off (by decide) hi) (fun i hi => if_off (by decide) hi)))
    · have ho' := ho
      obtain rfl := Option.some.inj ho
      have f3 : ac.tmps.getD 3 undef = .pointer (some ⟨b2, 0, none⟩) := slott hF 2 hLi 3 (by kernel_rfl)
      refine step_do ho' (wanted_free rfl) ?_
      exact wp_load_own 35 (.tmp 3) rfl b2 f3 (numA zi) _ 35 (hF.j.1.at b2 (numA zi) 35 (.head _)) Tryd.underlying35 rfl (numA_info _) (hK _ _ (.inr rfl) (hF.j.congr (fun i hi => if_off (by decide) hi) (fun i hi => if_off (by decide) hi) (fun i hi => if_off (by decide) hi)))
    · have ho' := ho
      obtain rfl := Option.some.inj ho
      have f11 : ac.tmps.getD 11 undef = .agg (numA X) := (factt hF hd 1 rfl rfl (by kernel_rfl)).1.trans (factt hF hd 1 rfl rfl (by kernel_rfl)).2
      have f12 : ac.tmps.getD 12 undef = .agg (numA zi) := (factt hF hd 2 rfl rfl (by kernel_rfl)).1.trans (factt hF hd 2 rfl rfl (by kernel_rfl)).2
      refine step_do ho' (wanted_free rfl) ?_
      unfold Oper.wp
      go_simp
      refine (mul_at hX.out hzi.out Hx.out _).mono ?_
      rintro e w' ⟨rfl, hB⟩
      exact hK _ _ (.inr rfl) ((hF.j.congr (fun i hi => if_off (by decide) hi) (fun i hi => if_off (by decide) hi) (fun i hi => if_off (by decide) hi)).below hB)
    · have ho' := ho
      obtain rfl := Option.some.inj ho
      have f1 : ac.tmps.getD 1 undef = .pointer (some ⟨bP, 0, none⟩) := slott hF 4 hLi 1 (by kernel_rfl)
      refine step_do ho' (wanted_free rfl) ?_
      unfold Oper.wp
      go_simp
      exact hK _ _ (.inr rfl) (hF.j.congr (fun i hi => if_off (by decide) hi) (fun i hi => if_off (by decide) hi) (fun i hi => if_off (by decide) hi))
    · have ho' := ho
      obtain rfl := Option.some.inj ho
      have f14 : ac.tmps.getD 14 undef = .pointer (some ⟨bP, 4, none⟩) := (factt hF hd 4 rfl rfl (by kernel_rfl)).1.trans (factt hF hd 4 rfl rfl (by kernel_rfl)).2
      refine step_do ho' (wanted_free rfl) ?_
      exact wp_load_part 1 (by decide) (.tmp 14) rfl bP f14 (hF.j.1.at bP (PA ⟨X, Y, Z, T⟩) 47 (.tail _ (.tail _ (.head _)))) (hK _ _ (.inr rfl) (hF.j.congr (fun i hi => if_off (by decide) hi) (fun i hi => if_off (by decide) hi) (fun i hi => if_off (by decide) hi)))
    · have ho' := ho
      obtain rfl := Option.some.inj ho
      have f3 : ac.tmps.getD 3 undef = .pointer (some ⟨b2, 0, none⟩) := slott hF 6 hLi 3 (by kernel_rfl)
      refine step_do ho' (wanted_free rfl) ?_
      exact wp_load_own 35 (.tmp 3) rfl b2 f3 (numA zi) _ 35 (hF.j.1.at b2 (numA zi) 35 (.head _)) Tryd.underlying35 rfl (numA_info _) (hK _ _ (.inr rfl) (hF.j.congr (fun i hi => if_off (by decide) hi) (fun i hi => if_off (by decide) hi) (fun i hi => if_off (by decide) hi)))
    · have ho' := ho
      obtain rfl := Option.some.inj ho
      have f15 : ac.tmps.getD 15 undef = .agg (numA Y) := (factt hF hd 5 rfl rfl (by kernel_rfl)).1.trans (factt hF hd 5 rfl rfl (by kernel_rfl)).2
      have f16 : ac.tmps.getD 16 undef = .agg (numA zi) := (factt hF hd 6 rfl rfl (by kernel_rfl)).1.trans (factt hF hd 6 rfl rfl (by kernel_rfl)).2
      refine step_do ho' (wanted_free rfl) ?_
      unfold Oper.wp
      go_simp
      refine (mul_at hY.out hzi.out Hy.out _).mono ?_
      rintro e w' ⟨rfl, hB⟩
      exact hK _ _ (.inr rfl) ((hF.j.congr (fun i hi => if_off (by decide) hi) (fun i hi => if_off (by decide) hi) (fun i hi => if_off (by decide) hi)).below hB)
    · have ho' := ho
      obtain rfl := Option.some.inj ho
      refine step_do ho' (wanted_free rfl) ?_
      have hs := notyett hF 8 hLi 10 rfl (by kernel_rfl)
      unfold Oper.wp
      go_simp
      rw [show (#[.int .u64 0, .int .u64 0, .int .u64 0, .int .u64 0] : Array Value) = numA 0 from rfl]
      exact hK _ _ (.inr ⟨_, rfl⟩) (hF.j.alloc 0 (fun i _ hne => if_oth (k := 0) rfl hne) (fun i hi => if_off (by decide) hi) (fun i _ hne => if_oth (k := 0) rfl hne) rfl hs)
    · have ho' := ho
      obtain rfl := Option.some.inj ho
      refine step_do ho' (wanted_free rfl) ?_
      have hs := notyett hF 9 hLi 11 rfl (by kernel_rfl)
      unfold Oper.wp
      go_simp
      rw [show (#[.int .u64 0, .int .u64 0, .int .u64 0, .int .u64 0] : Array Value) = numA 0 from rfl]
      exact hK _ _ (.inr ⟨_, rfl⟩) (hF.j.alloc 1 (fun i _ hne => if_oth (k := 1) rfl hne) (fun i hi => if_off (by decide) hi) (fun i _ hne => if_oth (k := 1) rfl hne) rfl hs)
    · have ho' := ho
      obtain rfl := Option.some.inj ho
      have f13 : ac.tmps.getD 13 undef = .agg (numA x) := (factt hF hd 3 rfl rfl (by kernel_rfl)).1.trans (factt hF hd 3 rfl rfl (by kernel_rfl)).2
      refine step_do ho' (wanted_free rfl) ?_
      obtain ⟨fg, gq, hg⟩ := factt hF hd 8 rfl rfl (by kernel_rfl)
      have hm := dep hd 8 (by kernel_rfl)
      have hj := hF.j
      rw [hg] at fg
      have hj2 := hj.at (k := 0) (by decide) hm hg hLi
      refine wp_store_own 35 (.tmp 4) (.tmp 13) rfl gq (numA x) fg f13 hj2.2.2 (numA_sizes _ _) (numA_info _) (numA_one _) rfl ?_
      exact hK undef _ (.inl rfl) (hj.storeA (k := 0) Af4_0.out (by decide) hm hg hLi (numA_sizes _ _) (fun i hi => if_off (by decide) hi) (fun i _ hne => if_oth (k := 0) rfl hne) (fun i hi => if_off (by decide) hi) rfl)
    · have ho' := ho
      obtain rfl := Option.some.inj ho
      have f17 : ac.tmps.getD 17 undef = .agg (numA y) := (factt hF hd 7 rfl rfl (by kernel_rfl)).1.trans (factt hF hd 7 rfl rfl (by kernel_rfl)).2
      refine step_do ho' (wanted_free rfl) ?_
      obtain ⟨fg, gq, hg⟩ := factt hF hd 9 rfl rfl (by kernel_rfl)
      have hm := dep hd 9 (by kernel_rfl)
      have hj := hF.j
      rw [hg] at fg
      have hj2 := hj.at (k := 1) (by decide) hm hg hLi
      refine wp_store_own 35 (.tmp 5) (.tmp 17) rfl gq (numA y) fg f17 hj2.2.2 (numA_sizes _ _) (numA_info _) (numA_one _) rfl ?_
      exact hK undef _ (.inl rfl) (hj.storeA (k := 1) Af4_1.out (by decide) hm hg hLi (numA_sizes _ _) (fun i hi => if_off (by decide) hi) (fun i _ hne => if_oth (k := 1) rfl hne) (fun i hi => if_off (by decide) hi) rfl)
    · cases ho
  intro L vs V5 hL hJ hf
  obtain ⟨g6, hgg6⟩ := hf 8 _ _ rfl rfl
  obtain ⟨le0, apg6, owng6⟩ := hJ.gotA (k := 0) Af4_0.out (by decide) (hL 8 (by decide)) hgg6 (hL 10 (by decide))
  have le_g6 := show Hid _ from le0
  clear le0
  obtain ⟨g7, hgg7⟩ := hf 9 _ _ rfl rfl
  obtain ⟨le0, apg7, owng7⟩ := hJ.gotA (k := 1) Af4_1.out (by decide) (hL 9 (by decide)) hgg7 (hL 11 (by decide))
  have le_g7 := show Hid _ from le0
  clear le0
  have ne_g6_g7 : Hid (g6 ≠ g7) := hJ.apart (i := 0) (j := 1) (by decide) (by decide) (by decide) (hL 8 (by decide)) (hL 9 (by decide)) hgg6 hgg7
  have ne_bR_g6 : Hid (bR ≠ g6) := apg6 (bR, B32 fun _ => 0, 22) (.tail _ (.head _))
  have ne_bR_g7 : Hid (bR ≠ g7) := apg7 (bR, B32 fun _ => 0, 22) (.tail _ (.head _))
  have hK : Kp [(g7, numA y, 35), (g6, numA x, 35), (b2, numA zi, 35), (bR, B32 fun _ => 0, 22), (bP, PA ⟨X, Y, Z, T⟩, 47)] w V5 := ((hJ.1.cons owng6).cons owng7)
  have e0 : vs 0 = _ := hf 0 _ _ rfl rfl
  have e1 : vs 1 = _ := hf 1 _ _ rfl rfl
  have e2 : vs 2 = _ := hf 2 _ _ rfl rfl
  have e3 : vs 3 = _ := hf 3 _ _ rfl rfl
  have e4 : vs 4 = _ := hf 4 _ _ rfl rfl
  have e5 : vs 5 = _ := hf 5 _ _ rfl rfl
  have e6 : vs 6 = _ := hf 6 _ _ rfl rfl
  have e7 : vs 7 = _ := hf 7 _ _ rfl rfl
  simp only [putAll, Nat.zero_add, Nat.reduceAdd, e0, e1, e2, e3, e4, e5, e6, e7, hgg6, hgg7, Act.put, List.setIfInBounds_toArray, List.set_cons_succ, List.set_cons_zero]
  clear hJ hf hL e0 e1 e2 e3 e4 e5 e6 e7 hgg6 hgg7 apg6 apg7 owng6 owng7
  go_upto_region 3 with fail
  have hK : Kp [(g7, numA y, 35), (g6, numA x, 35), (bR, B32 fun _ => 0, 22)] w V5 := (((hK.none.cons (hK.at bR (B32 fun _ => 0) 22 (.tail _ (.tail _ (.tail _ (.head _)))))).cons (hK.at g6 (numA x) 35 (.tail _ (.head _)))).cons (hK.at g7 (numA y) 35 (.head _)))
  go_wp2_with (refine wpList_load_own (by rfl) 35 (.tmp 5) (by rfl) g7 (by rfl) (numA y) _ (hK.at g7 (numA y) 35 (.head _)) Tryd.underlying35 (by rfl) (numA_info _) ?_)
  refine (bytesOf_any y _).mono ?_
  rintro e V8 ⟨rfl, bw⟩
  have hK := hK.below bw
  clear bw
  go_upto_region 4 with (refine wpList_store_new (by rfl) 22 (.tmp 6) (.tmp 19) (by rfl) _ (B32 (bdig y)) (by rfl) (by rfl) (B32_info _) (B32_sizes _ _) (B32_one _) (by rfl) ?_)
  have lt_g7 := (hK.at g7 (numA y) 35 (.head _)).lt
  have lt_g6 := (hK.at g6 (numA x) 35 (.tail _ (.head _))).lt
  have lt_bR := (hK.at bR (B32 fun _ => 0) 22 (.tail _ (.tail _ (.head _)))).lt
  have le_b9 := show Hid _ from hK.2.size
  have hK := hK.alloc (B32 (bdig y)) 22
  generalize V8.alloc (.cells (B32 (bdig y)) 22) = V10 at *
  obtain ⟨b9, Hb9⟩ : ∃ b, Hid (V8.heap.size = b) := ⟨_, rfl⟩
  have ne_g7_b9 : Hid (g7 ≠ b9) := by show _ ≠ _; rw [← Hb9.out]; exact Nat.ne_of_lt lt_g7
  have ne_g6_b9 : Hid (g6 ≠ b9) := by show _ ≠ _; rw [← Hb9.out]; exact Nat.ne_of_lt lt_g6
  have ne_bR_b9 : Hid (bR ≠ b9) := by show _ ≠ _; rw [← Hb9.out]; exact Nat.ne_of_lt lt_bR
  have le_b9 : Hid (w.heap.size ≤ b9) := by show _ ≤ _; rw [← Hb9.out]; exact le_b9.out
  rw [Hb9.out] at hK ⊢
  clear lt_g7 lt_g6 lt_bR
  have cX := (hK.at g6 (numA x) 35 (.tail _ (.tail _ (.head _)))).cell (numA_at x 0 (by decide))
  have hand := and1_u64 (dig x 0) (dig_lt _ _)
  rw [dig_odd x] at hand
  generalize dig x 0 = x0 at *
  have hb2 : x % 2 = 0 ∨ x % 2 = 1 := by omega
  rcases hb2 with hb | hb
  · have He : Hid (y + HH * (x % 2) = y) := by show _ = _; rw [hb, Nat.mul_zero, Nat.add_zero]
    rw [hb] at hand
    clear hb
    go_upto_region 6 with fail
    go_wp2_with (first
      | refine wpList_load_own (by rfl) 22 (.tmp 6) (by rfl) b9 (by rfl) (B32 (bdig y)) _ (hK.at b9 (B32 (bdig y)) 22 (.head _)) Tryd.underlying22 (by rfl) (B32_info _) ?_
      | refine wpList_store_own (by rfl) 22 (.tmp 2) (.tmp 28) (by rfl) bR 0 (B32 (bdig y)) (by rfl) (by rfl) (hK.at bR (B32 fun _ => 0) 22 (.tail _ (.tail _ (.tail _ (.head _))))) (B32_le _ _) (B32_info _) (B32_one _) (by rfl) ?_)
    exact bodyPost_ret (results_own Tryd.results51 _ _ bR (B32 (bdig y)) _ (by rfl) (own_setCells (hK.at bR (B32 fun _ => 0) 22 (.tail _ (.tail _ (.tail _ (.head _))))) (B32_sizes _ _)) Tryd.underlying22 rfl (B32_info _)) rfl ⟨by rw [He.out], Below.setCells _ _ _ _ le_bR.out hK.2⟩
  · have He : Hid (y + HH * (x % 2) = y + HH) := by show _ = _; rw [hb, Nat.mul_one]
    rw [hb] at hand
    clear hb
    go_upto_region 5 with fail
    clear cX hand
    have cB := (hK.at b9 (B32 (bdig y)) 22 (.head _)).cell (B32_at (bdig y) 31 (by decide))
    have fB := (hK.at b9 (B32 (bdig y)) 22 (.head _)).frozen 31
    have hor := or_top hyH.out
    obtain ⟨u, Hu⟩ : ∃ u, Hid (bdig y 31 + 128 = u) := ⟨_, rfl⟩
    rw [Hu.out] at hor
    have hK := Kp.setCell (i := 31) (v := .int .u8 (u : Int)) hK (by simp only [List.forall_mem_cons, List.not_mem_nil, false_implies, implies_true, and_true]; exact ⟨ne_g7_b9.out, ne_g6_b9.out, ne_bR_b9.out⟩) le_b9.out
    rw [B32_set _ 31 _ (by decide), ← Hu.out, B32_top hyH.out, Hu.out] at hK
    generalize bdig y 31 = d31 at *
    go_upto_region 6 with fail
    generalize V10.setCell ⟨b9, 31, none⟩ (.int .u8 (u : Int)) = VV at *
    go_wp2_with (first
      | refine wpList_load_own (by rfl) 22 (.tmp 6) (by rfl) b9 (by rfl) (B32 (bdig (y + HH))) _ (hK.at b9 (B32 (bdig (y + HH))) 22 (.head _)) Tryd.underlying22 (by rfl) (B32_info _) ?_
      | refine wpList_store_own (by rfl) 22 (.tmp 2) (.tmp 28) (by rfl) bR 0 (B32 (bdig (y + HH))) (by rfl) (by rfl) (hK.at bR (B32 fun _ => 0) 22 (.tail _ (.tail _ (.tail _ (.head _))))) (B32_le _ _) (B32_info _) (B32_one _) (by rfl) ?_)
    exact bodyPost_ret (results_own Tryd.results51 _ _ bR (B32 (bdig (y + HH))) _ (by rfl) (own_setCells (hK.at bR (B32 fun _ => 0) 22 (.tail _ (.tail _ (.tail _ (.head _))))) (B32_sizes _ _)) Tryd.underlying22 rfl (B32_info _)) rfl ⟨by rw [He.out], Below.setCells _ _ _ _ le_bR.out hK.2⟩
theorem encode_any (r : N4) (hr : r.ok) (w : World) : Calls Tryd.prog 51 #[.agg (PA r)] w fun e w' => e = .returned (.agg (B32 (bdig (enc4 r)))) ∧ Below w.heap.size w w' :=
  encode_nat hr.x hr.y hr.z w
end Go.Proofs.YtfkcphbbabaefaaDoor
