/- Of the texts SA: what the card of this claim reaches. -/
import Derived.Test.YtfkcphbbabaefaaGreatDoorXC3
import Derived.Test.YtfkcphbbabaefaaGreatDoorXC11
import Derived.Test.YtfkcphbbabaefaaGreatDoorXC37
namespace Go.Proofs.YtfkcphbbabaefaaGreatDoor
open Go.RowKit
theorem modL_half {t i n b : Nat} (hn : n = t / 2 ^ (i + 1) % LL) (hb : t / 2 ^ i % 2 = b) : t / 2 ^ i % LL = (n + n + b) % LL := by
  have h : t / 2 ^ i = t / 2 ^ (i + 1) * 2 + b := by
    have : t / 2 ^ (i + 1) = t / 2 ^ i / 2 := by rw [Nat.pow_succ, Nat.div_div_eq_div_mul]
    omega
  rw [h, hn]
  generalize t / 2 ^ (i + 1) = x
  rw [Nat.add_mod (x % LL + x % LL), ← Nat.add_mod x x, ← Nat.add_mod, Nat.mul_two]
theorem modL_low {t i n b s : Nat} (hn : n = t / 2 ^ (i + 1) % LL) (hb : t / 2 ^ i % 2 = b) (hs : n + n + b = s) (hl : s < LL) : s = t / 2 ^ i % LL := by
  rw [modL_half hn hb, hs, Nat.mod_eq_of_lt hl]
theorem modL_high {t i n b s y : Nat} (hn : n = t / 2 ^ (i + 1) % LL) (hb : t / 2 ^ i % 2 = b) (hs : n + n + b = s) (hy : s = y + LL) (hl : y < LL) : y = t / 2 ^ i % LL := by
  rw [modL_half hn hb, hs, hy, Nat.add_mod_right, Nat.mod_eq_of_lt hl]
theorem pow_two_add {a b n A B : Nat} (ha : 2 ^ a = A) (hb : 2 ^ b = B) (e : n = a + b) : 2 ^ n = A * B := by rw [e, Nat.pow_add, ha, hb]
theorem two512 {n : Nat} (e : n = 256 + 256) : 2 ^ n = R512 := (pow_two_add (show 2 ^ 256 = R256 by decide) (show 2 ^ 256 = R256 by decide) e).trans R512_eq.symm
theorem modL_from (t n : Nat) (e : n = 256 + 256) (ht : t < R512) : 0 = t / 2 ^ n % LL := by
  rw [two512 e, Nat.div_eq_of_lt ht, Nat.zero_mod]
theorem A4_upd {f : Nat → Nat} {k v n : Nat} (hk : k < 4) (hf : ∀ i, i < 4 → f i < 18446744073709551616) (hv : v < 18446744073709551616) (e : vl (upd f k v) 4 = n) : (A4 f).setIfInBounds k (.int .u64 (v : Int)) = numA n := by
  rw [A4_set f k v hk, ← e]
  exact A4_num _ fun i hi => by
    by_cases h : i = k
    · rw [h, upd_same]; exact hv
    · rw [upd_other _ _ _ _ h]; exact hf i hi
theorem or_end (s b : Nat) (hb : b < 2) (hs : s % 2 = 0) : bits .or .u64 (dig s 0 : Int) (b : Int) = ((dig s 0 + b : Nat) : Int) := by
  have h0 : dig s 0 % 2 = 0 := by
    unfold dig
    rw [Nat.pow_zero, Nat.div_one]; omega
  rw [u64_or_nat (dig s 0) b (dig_lt s 0) (by omega), Nat.or_comm, nat_join1' (dig s 0) b h0 hb]
theorem num_end {s b n : Nat} (hs : s < R256) (h2 : s % 2 = 0) (hb : b < 2) (hn : s + b = n) : (numA s).setIfInBounds 0 (.int .u64 ((dig s 0 + b : Nat) : Int)) = numA n := by
  have h0 : dig s 0 % 2 = 0 := by
    unfold dig
    rw [Nat.pow_zero, Nat.div_one]; omega
  have hd := dig_lt s 0
  refine A4_upd (by decide) (fun i _ => dig_lt s i) (by omega) ?_
  have h := vl_upd_eq (dig s) 0 (dig s 0 + b) 4 (by decide)
  rw [vl_num s hs, Nat.pow_zero] at h
  omega
theorem even_sum {n s : Nat} (h : n + n = s) : s % 2 = 0 := by omega
end Go.Proofs.YtfkcphbbabaefaaGreatDoor
namespace Go.Proofs.YtfkcphbbabaefaaGreatDoor
open Go.RowKit
theorem add_fitL {a b s : Nat} (ha : a < R256) (hb : b < R256) (hs : a + b = s) (h : s < R256) (w : World) :
    Calls Tryz.prog 82 #[.agg (numA a), .agg (numA b)] w fun e w' => e = .returned (.tuple #[.agg (numA s), .int .u64 0]) ∧ Below w.heap.size w w' := by
  refine (add_any a b ha hb w).mono ?_
  rintro e w' ⟨⟨d, c, rfl, hd, hc, he⟩, hB⟩
  have : c = 0 ∨ c = 1 := by omega
  rcases this with rfl | rfl
  · obtain rfl : d = s := by omega
    exact ⟨rfl, hB⟩
  · omega
def valML (u : Nat) (d : Bool) : Nat → Value
  | 0 => .agg (numA u)
  | 1 => .agg (numA LL)
  | 2 => .bool d
  | 3 => .bool (!d)
  | _ => undef
def valMS (u y : Nat) : Nat → Value
  | 0 => .agg (numA u)
  | 1 => .agg (numA LL)
  | 2 => .tuple #[.agg (numA y), .int .u64 0]
  | 3 => .tuple #[.agg (numA y), .int .u64 0]
  | 4 => .agg (numA y)
  | 5 => .int .u64 0
  | _ => undef
set_option maxRecDepth 100000 in
set_option maxHeartbeats 8000000 in
theorem modL_any (t : Nat) (ht : t < R512) (w : World) : Calls Tryz.prog 56 #[.agg (A8 (dig t))] w fun x w' => x = .returned (.agg (numA (t % LL))) ∧ Below w.heap.size w w' := by
  obtain ⟨r, Hr⟩ : ∃ r, Hid (t % LL = r) := ⟨_, rfl⟩
  rw [Hr.out]
  have hz := (zero_of_info zeroNum).1
  go_enter Tryz.func56, Tryz.ntmps56
  go_wp2_with fail
  have hK0 := (((Kp.nil w).alloc (A8 (dig t)) 63).alloc (numA 0) 50).alloc (numA 0) 50
  rw [World.size_alloc, World.size_alloc] at hK0
  rw [← zero_num]
  generalize ((w.alloc (.cells (A8 (dig t)) 63)).alloc (.cells (numA 0) 50)).alloc (.cells (numA 0) 50) = W at *
  obtain ⟨bT, HT⟩ : ∃ bT, Hid (w.heap.size = bT) := ⟨_, rfl⟩
  obtain ⟨bR, HR⟩ : ∃ bR, Hid (bT + 1 = bR) := ⟨_, rfl⟩
  obtain ⟨bO, HO⟩ : ∃ bO, Hid (bR + 1 = bO) := ⟨_, rfl⟩
  have hle : w.heap.size ≤ bR := by have := HT.out; have := HR.out; omega
  have hleO : w.heap.size ≤ bO := by have := HO.out; omega
  have n1 : bT ≠ bO := by have := HR.out; have := HO.out; omega
  have n2 : bR ≠ bO := by have := HO.out; omega
  rw [HT.out, HR.out, HO.out] at hK0 ⊢
  have hnot : ∀ p ∈ [(bR, numA 0, 50), (bT, A8 (dig t), 63)], p.1 ≠ bO := by simp; omega
  go_loopw [4] (fun ii wr => ∃ (j n : Nat), j ≤ 512 ∧ ii = .int .i64 ((j : Int) - 1) ∧ n < LL ∧ Hid (n = t / 2 ^ j % LL) ∧ Kp [(bO, numA n, 50), (bR, numA 0, 50), (bT, A8 (dig t), 63)] w wr) (fun ii _ => (intOf ii + 1).toNat)
  case atStart => exact ⟨512, 0, by omega, rfl, LL_pos, modL_from t 512 rfl ht, hK0⟩
  case round =>
    obtain ⟨j, n, hj, rfl, hnL, Hn, hKr⟩ := hrel
    have hn : n < R256 := Nat.lt_trans hnL LL_lt
    cases j with
    | zero =>
      rw [show (((0 : Nat) : Int) - 1) = -1 from rfl]
      have Hend : Hid (n = r) := by
        show _ = _
        rw [Hn.out, Nat.pow_zero, Nat.div_one, Hr.out]
      go_upto_region 9 with fail
      go_wp2_with (first
        | refine wpList_load_own (by rfl) 50 (.tmp 3) (by rfl) bO (by rfl) (numA n) _ hKr.h1 Tryz.underlying50 (by rfl) (numA_info n) ?_
        | refine wpList_store_own (by rfl) 50 (.tmp 2) (.tmp 38) (by rfl) bR 0 (numA n) (by rfl) (by rfl) hKr.h2 (Nat.le_refl _) (numA_info n) (numA_one n) (by rfl) ?_)
      refine bodyPost_ret (results_own Tryz.results56 _ _ bR (numA n) _ (by rfl) (own_setCells hKr.h2 (numA_sizes n 0)) Tryz.underlying50 rfl (numA_info n)) rfl ⟨by rw [Hend.out], ?_⟩
      exact Below.setCells _ _ _ _ hle hKr.2
    | succ i =>
      rw [show (((i + 1 : Nat) : Int) - 1) = (i : Int) by omega]
      have hi0 : (0 : Int) ≤ (i : Int) := by omega
      have hi1 : (i : Int) < 512 := by omega
      obtain ⟨s, Hs⟩ : ∃ s, Hid (n + n = s) := ⟨_, rfl⟩
      have h2L := twoL
      have hs : s < R256 := by have := Hs.out; omega
      have hs2 : s % 2 = 0 := even_sum Hs.out
      obtain ⟨b, Hb⟩ : ∃ b, Hid (t / 2 ^ i % 2 = b) := ⟨_, rfl⟩
      have hb : b < 2 := by rw [← Hb.out]; exact Nat.mod_lt _ (by decide)
      obtain ⟨u, Hu⟩ : ∃ u, Hid (s + b = u) := ⟨_, rfl⟩
      have hu : u < R256 := by have := Hu.out; have := Hs.out; omega
      have hu2 : Hid (u < 2 * LL) := by show _ < _; have := Hu.out; have := Hs.out; omega
      have Hnb : Hid (n + n + b = u) := by show _ = _; rw [Hs.out]; exact Hu.out
      clear h2L
      go_upto_region 5 with fail
      go_wp2_with (refine wpList_load_own (by rfl) 50 (.tmp 3) (by rfl) bO (by rfl) (numA n) _ hKr.h1 Tryz.underlying50 (by rfl) (numA_info n) ?_)
      refine (add_fitL hn hn Hs.out hs wr).mono ?_
      rintro x w1 ⟨rfl, hB1⟩
      have hK2 := hKr.below hB1
      have hK3 := hK2.set (A' := numA s) hnot hleO (numA_sizes s n)
      go_upto_region 6 with (refine wpList_store_own (by rfl) 50 (.tmp 3) (.tmp 13) (by rfl) bO 0 (numA s) (by rfl) (by rfl) hK2.h1 (Nat.le_refl _) (numA_info s) (numA_one s) (by rfl) ?_)
      generalize w1.setCells bO 0 (numA s).toList = W2 at *
      clear hK2 hB1
      have hdv : (i : Int).tdiv 64 = ((i / 64 : Nat) : Int) := by rw [Int.tdiv_eq_ediv_of_nonneg (by omega)]; omega
      have hmd : (i : Int).tmod 64 = ((i % 64 : Nat) : Int) := by rw [Int.tmod_eq_emod_of_nonneg (by omega)]; omega
      have hd8 : i / 64 < 8 := by omega
      have cO := hK3.h1.cell (numA_at s 0 (by decide))
      have fO := hK3.h1.frozen 0
      have cT := hK3.h3.cell (A8_at (dig t) (i / 64) hd8)
      have hbit := bit_u64 t i
      rw [Hb.out] at hbit
      have hor := or_end s b hb hs2
      have hd40 : (0 : Int) ≤ ((i / 64 : Nat) : Int) := by omega
      have hd41 : ((i / 64 : Nat) : Int) < 8 := by omega
      have hm0 : (0 : Int) ≤ ((i % 64 : Nat) : Int) := by omega
      have hm1 : ((i % 64 : Nat) : Int) < 64 := by omega
      have hK4 := Kp.setCell (i := 0) (v := .int .u64 ((dig s 0 + b : Nat) : Int)) hK3 hnot hleO
      rw [num_end hs hs2 hb Hu.out] at hK4
      have HK4 := show Hid _ from hK4
      clear hK4 hs2
      generalize dig s 0 + b = v at *
      generalize dig s 0 = e0 at *
      generalize dig t (i / 64) = e at *
      generalize i / 64 = D at *
      generalize i % 64 = M at *
      go_region
      have hK5 := Kp.below HK4.out ((Below.refl _ _).drew)
      clear hK3 HK4 cO fO cT hbit hor hdv hmd
      obtain ⟨d, Hd⟩ : ∃ d, Hid (decide (u < LL) = d) := ⟨_, rfl⟩
      go_upto_region 7 with fail
      refine wp_region_vals 39 (by kernel_rfl) (by kernel_rfl) (by rfl) (valML u d) (fun _ => Kp [(bO, numA u, 50), (bR, numA 0, 50), (bT, A8 (dig t), 63)] w) (Kp.drew hK5) ?_ ?_
      · intro L ac wc i o hF hLi ho hd K hK
        rcases i with _ | _ | _ | _ | i
        · have ho' := ho
          obtain rfl := Option.some.inj ho
          have f3 : ac.tmps.getD 3 undef = .pointer (some ⟨bO, 0, none⟩) := slotv hF 0 hLi 3 (by kernel_rfl)
          refine step_do ho' (wanted_free rfl) ?_
          exact wp_load_own 50 (.tmp 3) rfl bO f3 (numA u) _ 50 hF.j.h1 Tryz.underlying50 rfl (numA_info _) (hK _ _ (.inr rfl) hF.j)
        · have ho' := ho
          obtain rfl := Option.some.inj ho
          refine step_do ho' (wanted_free rfl) ?_
          unfold Oper.wp
          go_simp
          refine (L_any _).mono ?_
          rintro e w' ⟨rfl, hB⟩
          exact hK _ _ (.inr rfl) (hF.j.below hB)
        · have ho' := ho
          obtain rfl := Option.some.inj ho
          have f28 : ac.tmps.getD 28 undef = .agg (numA u) := valv hF hd 0 rfl rfl (by kernel_rfl)
          have f29 : ac.tmps.getD 29 undef = .agg (numA LL) := valv hF hd 1 rfl rfl (by kernel_rfl)
          refine step_do ho' (wanted_free rfl) ?_
          unfold Oper.wp
          go_simp
          refine (less_any u LL hu LL_lt _).mono ?_
          rintro e w' ⟨rfl, hB⟩
          rw [Hd.out]
          exact hK _ _ (.inr rfl) (hF.j.below hB)
        · have ho' := ho
          obtain rfl := Option.some.inj ho
          have f30 : ac.tmps.getD 30 undef = .bool d := valv hF hd 2 rfl rfl (by kernel_rfl)
          refine step_do ho' (wanted_free rfl) ?_
          unfold Oper.wp
          go_simp
          exact hK _ _ (.inr rfl) hF.j
        · cases ho
      · intro L wq hL hK6
        simp only [putAll, valML, Act.put, List.setIfInBounds_toArray, List.set_cons_succ, List.set_cons_zero]
        clear hL hK5
        cases d with
        | true =>
          have hlt := of_decide_eq_true Hd.out
          have Hst := show Hid _ from modL_low Hn.out Hb.out Hnb.out hlt
          have HL := show Hid _ from hlt
          clear hlt
          go_wp2_with fail
          exact ⟨⟨i, u, by omega, rfl, HL.out, Hst.out, hK6⟩, by simp [intOf]⟩
        | false =>
          have hge := of_decide_eq_false Hd.out
          obtain ⟨y, Hy⟩ : ∃ y, Hid (u = y + LL) := ⟨u - LL, by show _ = _; omega⟩
          have HL : Hid (y < LL) := by show _ < _; have := Hy.out; have := hu2.out; omega
          have Hst := show Hid _ from modL_high Hn.out Hb.out Hnb.out Hy.out HL.out
          clear hge
          go_upto_region 8 with fail
          refine wp_region_vals 39 (by kernel_rfl) (by kernel_rfl) (by rfl) (valMS u y) (fun L => Kp [(bO, if L 6 = true then numA y else numA u, 50), (bR, numA 0, 50), (bT, A8 (dig t), 63)] w) hK6.drew ?_ ?_
          · intro L ac wc i o hF hLi ho hd K hK
            rcases i with _ | _ | _ | _ | _ | _ | _ | i
            · have ho' := ho
              obtain rfl := Option.some.inj ho
              have f3 : ac.tmps.getD 3 undef = .pointer (some ⟨bO, 0, none⟩) := slotv hF 0 hLi 3 (by kernel_rfl)
              refine step_do ho' (wanted_free rfl) ?_
              have hn6 := notyet hF 0 hLi 6 rfl (by kernel_rfl)
              have hj := hF.j
              rw [hn6] at hj
              exact wp_load_own 50 (.tmp 3) rfl bO f3 (numA u) _ 50 hj.h1 Tryz.underlying50 rfl (numA_info _) (hK _ _ (.inr rfl) hF.j)
            · have ho' := ho
              obtain rfl := Option.some.inj ho
              refine step_do ho' (wanted_free rfl) ?_
              unfold Oper.wp
              go_simp
              refine (L_any _).mono ?_
              rintro e w' ⟨rfl, hB⟩
              exact hK _ _ (.inr rfl) (hF.j.below hB)
            · have ho' := ho
              obtain rfl := Option.some.inj ho
              have f33 : ac.tmps.getD 33 undef = .agg (numA u) := valv hF hd 0 rfl rfl (by kernel_rfl)
              have f34 : ac.tmps.getD 34 undef = .agg (numA LL) := valv hF hd 1 rfl rfl (by kernel_rfl)
              refine step_do ho' (wanted_free rfl) ?_
              unfold Oper.wp
              go_simp
              refine (sub_big hu LL_lt Hy.out _).mono ?_
              rintro e w' ⟨rfl, hB⟩
              exact hK _ _ (.inr rfl) (hF.j.below hB)
            · have ho' := ho
              obtain rfl := Option.some.inj ho
              have f35 : ac.tmps.getD 35 undef = .tuple #[.agg (numA y), .int .u64 0] := valv hF hd 2 rfl rfl (by kernel_rfl)
              refine step_do ho' (wanted_free rfl) ?_
              unfold Oper.wp
              go_simp
              exact hK _ _ (.inr rfl) hF.j
            · have ho' := ho
              obtain rfl := Option.some.inj ho
              have f32 : ac.tmps.getD 32 undef = .tuple #[.agg (numA y), .int .u64 0] := valv hF hd 3 rfl rfl (by kernel_rfl)
              refine step_do ho' (wanted_free rfl) ?_
              unfold Oper.wp
              go_simp
              exact hK _ _ (.inr rfl) hF.j
            · have ho' := ho
              obtain rfl := Option.some.inj ho
              have f32 : ac.tmps.getD 32 undef = .tuple #[.agg (numA y), .int .u64 0] := valv hF hd 3 rfl rfl (by kernel_rfl)
              refine step_do ho' (wanted_free rfl) ?_
              unfold Oper.wp
              go_simp
              exact hK _ _ (.inr rfl) hF.j
            · have ho' := ho
              obtain rfl := Option.some.inj ho
              have f3 : ac.tmps.getD 3 undef = .pointer (some ⟨bO, 0, none⟩) := slotv hF 6 hLi 3 (by kernel_rfl)
              have f36 : ac.tmps.getD 36 undef = .agg (numA y) := valv hF hd 4 rfl rfl (by kernel_rfl)
              refine step_do ho' (wanted_free rfl) ?_
              have hj := hF.j
              rw [hLi] at hj
              refine wp_store_own 50 (.tmp 3) (.tmp 36) rfl bO (numA y) f3 f36 hj.h1 (numA_sizes _ _) (numA_info _) (numA_one _) rfl ?_
              exact hK undef _ (.inl rfl) (Kp.set hj hnot hleO (numA_sizes _ _))
            · cases ho
          · intro L wz hL hK7
            rw [hL 6 (by decide)] at hK7
            simp only [putAll, valMS, Act.put, List.setIfInBounds_toArray, List.set_cons_succ, List.set_cons_zero]
            clear hL hK6
            go_wp2_with fail
            exact ⟨⟨i, y, by omega, rfl, HL.out, Hst.out, hK7⟩, by simp [intOf]⟩
end Go.Proofs.YtfkcphbbabaefaaGreatDoor
namespace Go.Proofs.YtfkcphbbabaefaaGreatDoor
open Go.RowKit
theorem vb_bound (f : Nat → Nat) (n : Nat) (hn : n ≤ 64) (hf : ∀ i, i < n → f i < 256) : vb f n < R512 :=
  Nat.lt_of_lt_of_le (vb_lt f n hf) (Nat.le_trans (Nat.pow_le_pow_right (by decide) hn) (by decide))
theorem A8_bytes {x k c : Nat} (hx : x < 256 ^ k) (hc : c < 256) (hk : k / 8 < 8) : (A8 (dig x)).setIfInBounds (k / 8) (.int .u64 ((dig x (k / 8) + c * 256 ^ (k % 8) : Nat) : Int)) = A8 (dig (x + c * 256 ^ k)) := by
  rw [A8_set _ _ _ hk, Nat.mul_comm c (256 ^ k)]
  exact A8_congr fun j _ => (dig_more hx hc j).symm
set_option maxRecDepth 100000 in
set_option maxHeartbeats 8000000 in
theorem modLs_any (f : Nat → Nat) (n bS cap : Nat) (hn : n ≤ 64) (hf : ∀ i, i < n → f i < 256) (w : World) (hbS : bS < w.heap.size) (hcell : ∀ i, i < n → w.cell? ⟨bS, i, none⟩ = some (.int .u8 (f i : Int))) :
    Calls Tryz.prog 26 #[.slice (some ⟨bS, 0, none⟩) n cap] w fun x w' => x = .returned (.agg (B32 (bdig (vb f n % LL)))) ∧ Below w.heap.size w w' := by
  have hz := (zero_of_info zeroB32).1
  have hz8 := (zero_of_info zeroA8).1
  go_enter Tryz.func26, Tryz.ntmps26
  go_wp2_with fail
  have hK0 := ((Kp.nil w).alloc (B32 fun _ => 0) 22).alloc (A8 (dig 0)) 63
  rw [World.size_alloc] at hK0
  rw [show (A8 fun _ => 0) = A8 (dig 0) from rfl]
  generalize (w.alloc (.cells (B32 fun _ => 0) 22)).alloc (.cells (A8 (dig 0)) 63) = W at *
  obtain ⟨bR, HR⟩ : ∃ bR, Hid (w.heap.size = bR) := ⟨_, rfl⟩
  obtain ⟨bO, HO⟩ : ∃ bO, Hid (bR + 1 = bO) := ⟨_, rfl⟩
  have hle : w.heap.size ≤ bR := Nat.le_of_eq HR.out
  have hleO : w.heap.size ≤ bO := by have := HO.out; omega
  have n2 : bR ≠ bO := by have := HO.out; omega
  rw [HR.out, HO.out] at hK0 ⊢
  have hnot : ∀ p ∈ [(bR, B32 fun _ => 0, 22)], p.1 ≠ bO := by simp; omega
  go_loopw [4] (fun ii wr => ∃ (k x : Nat), k ≤ n ∧ ii = .int .i64 (k : Int) ∧ x < 256 ^ k ∧ Hid (vb f k = x) ∧ Kp [(bO, A8 (dig x), 63), (bR, B32 fun _ => 0, 22)] w wr) (fun ii _ => n - (intOf ii).toNat)
  case atStart => exact ⟨0, 0, by omega, rfl, by decide, rfl, hK0⟩
  case round =>
    obtain ⟨k, x, hk, rfl, hx, Hx, hKr⟩ := hrel
    have hk0 : (0 : Int) ≤ (k : Int) := by omega
    by_cases hlt : k < n
    · have hki : (k : Int) < (n : Int) := by omega
      have hd4 : k / 8 < 8 := by omega
      have cA := ((bcell hKr.2).1 bS k hbS).trans (hcell k hlt)
      have cO := hKr.h1.cell (A8_at (dig x) (k / 8) hd4)
      have fO := hKr.h1.frozen (k / 8)
      have hc := hf k hlt
      have hdv : (k : Int).tdiv 8 = ((k / 8 : Nat) : Int) := by rw [Int.tdiv_eq_ediv_of_nonneg (by omega)]; omega
      have hmd : (k : Int).tmod 8 = ((k % 8 : Nat) : Int) := by rw [Int.tmod_eq_emod_of_nonneg (by omega)]; omega
      have hd40 : (0 : Int) ≤ ((k / 8 : Nat) : Int) := by omega
      have hd41 : ((k / 8 : Nat) : Int) < 8 := by omega
      have hm0 : (0 : Int) ≤ 8 * ((k % 8 : Nat) : Int) := by omega
      have hm1 : 8 * ((k % 8 : Nat) : Int) < 64 := by omega
      have hm2 : ((k % 8 : Nat) : Int) < 8 := by omega
      have hm3 : (0 : Int) ≤ ((k % 8 : Nat) : Int) := by omega
      have hs := shl_byte (k := k) hc
      have hor := or_byte hx hc
      have hK1 := Kp.setCell (i := k / 8) (v := .int .u64 ((dig x (k / 8) + f k * 256 ^ (k % 8) : Nat) : Int)) hKr hnot hleO
      rw [A8_bytes hx hc hd4] at hK1
      have HK2 := show Hid _ from hK1
      have Hnew : Hid (x + f k * 256 ^ k < 256 ^ (k + 1) ∧ vb f (k + 1) = x + f k * 256 ^ k) := by
        have e : vb f (k + 1) = x + f k * 256 ^ k := by rw [vb, Hx.out]
        exact ⟨by rw [← e]; exact vb_lt f (k + 1) fun i hi => hf i (by omega), e⟩
      clear hK1
      have hc0 : (0 : Int) ≤ ((f k : Nat) : Int) := by omega
      have hc1 : ((f k : Nat) : Int) < 256 := by omega
      generalize x + f k * 256 ^ k = x' at *
      generalize dig x (k / 8) + f k * 256 ^ (k % 8) = v at *
      generalize f k * 256 ^ (k % 8) = u at *
      generalize hCC : f k = c at cA hs hc0 hc1
      clear hCC
      generalize dig x (k / 8) = d at *
      generalize k / 8 = D at *
      generalize k % 8 = M at *
      go_wp2_with fail
      go_region
      go_wp2_with fail
      refine ⟨⟨k + 1, x', by omega, by go_num, Hnew.out.1, Hnew.out.2, Kp.below HK2.out ((Below.refl _ _).drew)⟩, by simp [intOf]; omega⟩
    · have hki : ¬ (k : Int) < (n : Int) := by omega
      have hxR : x < R512 := by rw [← Hx.out]; exact vb_bound f k (by omega) fun i hi => hf i (by omega)
      have He : Hid (vb f n % LL = x % LL) := by
        show _ = _
        rw [← Hx.out, show k = n by omega]
      go_upto_region 6 with fail
      go_wp2_with (refine wpList_load_own (by rfl) 63 (.tmp 3) (by rfl) bO (by rfl) (A8 (dig x)) _ hKr.h1 Tryz.underlying63 (by rfl) infoA8 ?_)
      refine (modL_any x hxR _).mono ?_
      rintro e w1 ⟨rfl, b1⟩
      have hK1 := hKr.below b1
      go_wp2_with fail
      refine (bytesOf_any _ _).mono ?_
      rintro e w2 ⟨rfl, b2⟩
      have hK2 := hK1.below b2
      go_wp2_with (refine wpList_store_own (by rfl) 22 (.tmp 2) (.tmp 29) (by rfl) bR 0 (B32 (bdig (x % LL))) (by rfl) (by rfl) hK2.h2 (B32_le _ _) (B32_info _) (B32_one _) (by rfl) ?_)
      refine bodyPost_ret (results_own Tryz.results26 _ _ bR (B32 (bdig (x % LL))) _ (by rfl) (own_setCells hK2.h2 (B32_sizes _ _)) Tryz.underlying22 rfl (B32_info _)) rfl ⟨by rw [He.out], ?_⟩
      exact Below.setCells _ _ _ _ hle hK2.2
theorem times_at {a b p : Nat} (ha : a < R256) (hb : b < R256) (hp : a * b = p) (w : World) : Calls Tryz.prog 57 #[.agg (numA a), .agg (numA b)] w fun e w' => e = .returned (.agg (A8 (dig p))) ∧ Below w.heap.size w w' := by
  refine (times_dig (dig a) (dig b) (fun i _ => dig_lt a i) (fun i _ => dig_lt b i) w).mono ?_
  rintro e w' ⟨⟨o, rfl, ho, he⟩, hB⟩
  rw [vl_num a ha, vl_num b hb, hp] at he
  exact ⟨by rw [A8_num o ho, he], hB⟩
theorem dig_above {c k : Nat} (hc : c < R256) (hk : 4 ≤ k) : dig c k = 0 := by
  unfold dig
  have h1 : (18446744073709551616 : Nat) ^ 4 ≤ 18446744073709551616 ^ k := Nat.pow_le_pow_right (by decide) hk
  have h2 : c < 18446744073709551616 ^ k := Nat.lt_of_lt_of_le (by rw [pow4]; exact hc) h1
  rw [Nat.div_eq_of_lt h2, Nat.zero_mod]
theorem vl_above {c : Nat} (hc : c < R256) : vl (dig c) 8 = c := by
  rw [vl_dig, Nat.mod_eq_of_lt (Nat.lt_trans hc (by decide))]
theorem vl_above2 {c : Nat} (hc : c < R512) : vl (dig c) 8 = c := by
  rw [vl_dig, pow8, Nat.mod_eq_of_lt hc]
theorem prod_room {a b c : Nat} (ha : a < R256) (hb : b < R256) (hc : c < R256) : a * b + c < R512 := by
  have h1 : a * b ≤ (R256 - 1) * (R256 - 1) := Nat.mul_le_mul (by omega) (by omega)
  have h2 : (R256 - 1) * (R256 - 1) + R256 ≤ R512 := by decide
  omega
theorem last_carry {p c h k R : Nat} (hR : R512 = R) (hp : p + c < R512) (e : p + c = h + R * k) : h = p + c := by
  rcases Nat.eq_zero_or_pos k with rfl | hk
  · omega
  · have : R * 1 ≤ R * k := Nat.mul_le_mul_left _ hk
    omega
theorem A8_val {h : Nat → Nat} {t : Nat} (hh : ∀ i, i < 8 → h i < 18446744073709551616) (e : vl h 8 = t) : A8 h = A8 (dig t) := by rw [A8_num h hh, e]
def factMA (a b p : Nat) : Nat → Value → Prop
  | 0, v => v = .agg (B32 (bdig a))
  | 1, v => v = .agg (numA a)
  | 2, v => v = .agg (B32 (bdig b))
  | 3, v => v = .agg (numA b)
  | 4, v => v = .agg (A8 (dig p))
  | 5, v => ∃ g, v = .pointer (some ⟨g, 0, none⟩)
  | _, _ => True
set_option maxRecDepth 100000 in
set_option maxHeartbeats 8000000 in
theorem muladd_any (a b c : Nat) (ha : a < R256) (hb : b < R256) (hc : c < R256) (w : World) : Calls Tryz.prog 27 #[.agg (B32 (bdig a)), .agg (B32 (bdig b)), .agg (B32 (bdig c))] w fun x w' => x = .returned (.agg (B32 (bdig ((a * b + c) % LL)))) ∧ Below w.heap.size w w' := by
  have hz := (zero_of_info zeroB32).1
  have hz8 := (zero_of_info zeroA8).1
  have hzN := (zero_of_info zeroLit).1
  have hroom := prod_room ha hb hc
  obtain ⟨p, Hp⟩ : ∃ p, Hid (a * b = p) := ⟨_, rfl⟩
  rw [Hp.out] at hroom ⊢
  have hpR : p < R512 := by omega
  obtain ⟨r, Hr⟩ : ∃ r, Hid ((p + c) % LL = r) := ⟨_, rfl⟩
  rw [Hr.out]
  go_enter Tryz.func27, Tryz.ntmps27
  go_upto_region 1 with fail
  have hK := ((((Kp.nil w).alloc (B32 (bdig a)) 22).alloc (B32 (bdig b)) 22).alloc (B32 (bdig c)) 22).alloc (B32 fun _ => 0) 22
  rw [World.size_alloc, World.size_alloc, World.size_alloc] at hK
  generalize (((w.alloc (.cells (B32 (bdig a)) 22)).alloc (.cells (B32 (bdig b)) 22)).alloc (.cells (B32 (bdig c)) 22)).alloc (.cells (B32 fun _ => 0) 22) = W at *
  obtain ⟨bA, H1⟩ : ∃ bA, Hid (w.heap.size = bA) := ⟨_, rfl⟩
  obtain ⟨bB, H2⟩ : ∃ bB, Hid (bA + 1 = bB) := ⟨_, rfl⟩
  obtain ⟨bC, H3⟩ : ∃ bC, Hid (bB + 1 = bC) := ⟨_, rfl⟩
  obtain ⟨bR, H4⟩ : ∃ bR, Hid (bC + 1 = bR) := ⟨_, rfl⟩
  have hleR : w.heap.size ≤ bR := by have := H1.out; have := H2.out; have := H3.out; have := H4.out; omega
  rw [H1.out, H2.out, H3.out, H4.out] at hK ⊢
  refine wp_region_told 42 (by kernel_rfl) (by kernel_rfl) (by rfl) (factMA a b p) (fun L vs => Mk [(bR, B32 fun _ => 0, 22), (bC, B32 (bdig c), 22), (bB, B32 (bdig b), 22), (bA, B32 (bdig a), 22)] w (A8 fun _ => 0) (A8 (dig p)) 63 (L 5) (L 6) (vs 5)) (fun _ => Mk.drew hK) ?_ ?_
  · intro L vs ac wc i o' hF hLi ho hd K hK
    rcases i with _ | _ | _ | _ | _ | _ | _ | i
    · have ho' := ho
      obtain rfl := Option.some.inj ho
      have f3 : ac.tmps.getD 3 undef = .pointer (some ⟨bA, 0, none⟩) := slott hF 0 hLi 3 (by kernel_rfl)
      refine step_do ho' (wanted_free rfl) ?_
      exact wp_load_own 22 (.tmp 3) rfl bA f3 (B32 (bdig a)) _ 22 hF.j.1.h4 Tryz.underlying22 rfl (B32_info _) (hK _ _ (.inr rfl) hF.j)
    · have ho' := ho
      obtain rfl := Option.some.inj ho
      have f12 : ac.tmps.getD 12 undef = .agg (B32 (bdig a)) := (factt hF hd 0 rfl rfl (by kernel_rfl)).1.trans (factt hF hd 0 rfl rfl (by kernel_rfl)).2
      refine step_do ho' (wanted_free rfl) ?_
      unfold Oper.wp
      go_simp
      refine (of_any a ha _).mono ?_
      rintro e w' ⟨rfl, hB⟩
      exact hK _ _ (.inr rfl) (hF.j.below hB)
    · have ho' := ho
      obtain rfl := Option.some.inj ho
      have f4 : ac.tmps.getD 4 undef = .pointer (some ⟨bB, 0, none⟩) := slott hF 2 hLi 4 (by kernel_rfl)
      refine step_do ho' (wanted_free rfl) ?_
      exact wp_load_own 22 (.tmp 4) rfl bB f4 (B32 (bdig b)) _ 22 hF.j.1.h3 Tryz.underlying22 rfl (B32_info _) (hK _ _ (.inr rfl) hF.j)
    · have ho' := ho
      obtain rfl := Option.some.inj ho
      have f14 : ac.tmps.getD 14 undef = .agg (B32 (bdig b)) := (factt hF hd 2 rfl rfl (by kernel_rfl)).1.trans (factt hF hd 2 rfl rfl (by kernel_rfl)).2
      refine step_do ho' (wanted_free rfl) ?_
      unfold Oper.wp
      go_simp
      refine (of_any b hb _).mono ?_
      rintro e w' ⟨rfl, hB⟩
      exact hK _ _ (.inr rfl) (hF.j.below hB)
    · have ho' := ho
      obtain rfl := Option.some.inj ho
      have f13 : ac.tmps.getD 13 undef = .agg (numA a) := (factt hF hd 1 rfl rfl (by kernel_rfl)).1.trans (factt hF hd 1 rfl rfl (by kernel_rfl)).2
      have f15 : ac.tmps.getD 15 undef = .agg (numA b) := (factt hF hd 3 rfl rfl (by kernel_rfl)).1.trans (factt hF hd 3 rfl rfl (by kernel_rfl)).2
      refine step_do ho' (wanted_free rfl) ?_
      unfold Oper.wp
      go_simp
      refine (times_at ha hb Hp.out _).mono ?_
      rintro e w' ⟨rfl, hB⟩
      exact hK _ _ (.inr rfl) (hF.j.below hB)
    · have ho' := ho
      obtain rfl := Option.some.inj ho
      refine step_do ho' (wanted_free rfl) ?_
      have hs := notyett hF 5 hLi 6 rfl (by kernel_rfl)
      unfold Oper.wp
      go_simp
      exact hK _ _ (.inr ⟨_, rfl⟩) (Mk.alloc hF.j.1 hs)
    · have ho' := ho
      obtain rfl := Option.some.inj ho
      have f16 : ac.tmps.getD 16 undef = .agg (A8 (dig p)) := (factt hF hd 4 rfl rfl (by kernel_rfl)).1.trans (factt hF hd 4 rfl rfl (by kernel_rfl)).2
      refine step_do ho' (wanted_free rfl) ?_
      obtain ⟨fg, g, hg⟩ := factt hF hd 5 rfl rfl (by kernel_rfl)
      have hm := dep hd 5 (by kernel_rfl)
      have hj := hF.j
      rw [hg] at fg
      have hj2 := hj.at hm hg hLi
      refine wp_store_own 63 (.tmp 7) (.tmp 16) rfl g (A8 (dig p)) fg f16 hj2.2.2 rfl infoA8 (A8_one _) rfl ?_
      exact hK undef _ (.inl rfl) (hj.store hm hg hLi rfl)
    · cases ho
  · intro L vs wq hL hJ hf
    obtain ⟨g, hg⟩ := hf 5 _ _ rfl rfl
    obtain ⟨hK, hgl, hgn⟩ := hJ.done (hL 5 (by decide)) hg (hL 6 (by decide))
    have e0 : vs 0 = _ := hf 0 _ _ rfl rfl
    have e1 : vs 1 = _ := hf 1 _ _ rfl rfl
    have e2 : vs 2 = _ := hf 2 _ _ rfl rfl
    have e3 : vs 3 = _ := hf 3 _ _ rfl rfl
    have e4 : vs 4 = _ := hf 4 _ _ rfl rfl
    simp only [putAll, Nat.zero_add, Nat.reduceAdd, e0, e1, e2, e3, e4, hg, Act.put, List.setIfInBounds_toArray, List.set_cons_succ, List.set_cons_zero]
    have gR : bR ≠ g := hgn (bR, B32 fun _ => 0, 22) (by simp)
    have lR := hK.h2.lt
    clear hJ hf hL hgn
    go_upto_region 2 with fail
    go_wp2_with (refine wpList_load_own (by rfl) 22 (.tmp 5) (by rfl) bC (by rfl) (B32 (bdig c)) _ hK.h3 Tryz.underlying22 (by rfl) (B32_info _) ?_)
    refine (of_any c hc _).mono ?_
    rintro e w1 ⟨rfl, b1⟩
    have hK1 := hK.below b1
    have lR := hK1.h2.lt
    have lg := hK1.h1.lt
    go_upto_region 3 with (refine wpList_store_new (by rfl) 50 (.tmp 8) (.tmp 18) (by rfl) _ (numA c) (by rfl) (by rfl) (numA_info _) (lit4_size _ _ _ _ _) (numA_one _) (by rfl) ?_)
    have hK2 := hK1.alloc (numA c) 50
    generalize w1.alloc (.cells (numA c) 50) = W2 at *
    obtain ⟨bN, H5⟩ : ∃ bN, Hid (w1.heap.size = bN) := ⟨_, rfl⟩
    rw [H5.out] at hK2 lR lg ⊢
    have hK3 : Kp [(g, A8 (dig p), 63), (bN, numA c, 50), (bR, B32 fun _ => 0, 22)] w W2 := hK2.sub (by simp)
    have hnot : ∀ q ∈ [(bN, numA c, 50), (bR, B32 fun _ => 0, 22)], q.1 ≠ g := by simp; omega
    clear hK hK1 hK2 lR lg
    go_wp2_with fail
    go_loopw [10, 9] (fun ii cc wr => ∃ (k y : Nat) (h : Nat → Nat), k ≤ 8 ∧ ii = .int .i64 (k : Int) ∧ cc = .int .u64 (y : Int) ∧ y ≤ 1 ∧ (∀ i, i < 8 → h i < 18446744073709551616) ∧ (∀ i, k ≤ i → h i = dig p i) ∧ Hid (vl (dig p) k + vl (dig c) k = vl h k + 18446744073709551616 ^ k * y) ∧ Kp [(g, A8 h, 63), (bN, numA c, 50), (bR, B32 fun _ => 0, 22)] w wr) (fun ii _ _ => 8 - (intOf ii).toNat)
    case atStart => exact ⟨0, 0, dig p, by omega, rfl, rfl, by omega, fun i _ => dig_lt p i, fun _ _ => rfl, by show _ = _; simp [vl], hK3⟩
    case round =>
      obtain ⟨k, y, h, hk, rfl, rfl, hy, hh, hrest, He, hKr⟩ := hrel
      have hk0 : (0 : Int) ≤ (k : Int) := by omega
      by_cases hlt : k < 8
      · have hki : (k : Int) < 8 := by omega
        obtain ⟨s, y', hrun, hs, hy', hes⟩ := add64_any (dig p k) (dig c k) y (dig_lt p k) (dig_lt c k) hy
        have Hst := show Hid _ from vl_add_step He.out hes
        have cT := hKr.h1.cell (A8_at h k hlt)
        have fT := hKr.h1.frozen k
        rw [hrest k (Nat.le_refl _)] at cT
        have hK4 := Kp.setCell (i := k) (v := .int .u64 (s : Int)) hKr hnot hgl
        rw [A8_set h k s hlt] at hK4
        have Hend : Hid ((∀ i, i < 8 → upd h k s i < 18446744073709551616) ∧ (∀ i, k + 1 ≤ i → upd h k s i = dig p i)) := by
          refine ⟨fun i hi => ?_, fun i hi => ?_⟩
          · by_cases e : i = k
            · rw [e, upd_same]; exact hs
            · rw [upd_other h k s i e]; exact hh i hi
          · rw [upd_other h k s i (by omega)]; exact hrest i (by omega)
        clear hes
        by_cases h4 : k < 4
        · have h4i : (k : Int) < 4 := by omega
          have cN := hKr.h2.cell (numA_at c k h4)
          generalize hXX : dig p k = x at cT hrun
          generalize hYY : dig c k = z at cN hrun
          clear hXX hYY
          go_wp2_with (simp only [hrun])
          exact ⟨⟨k + 1, y', upd h k s, by omega, by go_num, rfl, hy', Hend.out.1, Hend.out.2, Hst.out, hK4⟩, by simp [intOf]; omega⟩
        · have h4i : ¬ (k : Int) < 4 := by omega
          rw [dig_above hc (by omega), show ((0 : Nat) : Int) = 0 from rfl] at hrun
          generalize hXX : dig p k = x at cT hrun
          clear hXX
          go_wp2_with (simp only [hrun])
          exact ⟨⟨k + 1, y', upd h k s, by omega, by go_num, rfl, hy', Hend.out.1, Hend.out.2, Hst.out, hK4⟩, by simp [intOf]; omega⟩
      · have hki : ¬ (k : Int) < 8 := by omega
        have Hfin : Hid (A8 h = A8 (dig (p + c))) := by
          have e := He.out
          rw [show k = 8 by omega, vl_above hc, vl_above2 hpR, pow8] at e
          obtain ⟨R, HR⟩ : ∃ R, Hid (R512 = R) := ⟨_, rfl⟩
          rw [HR.out] at e
          exact A8_val hh (last_carry HR.out hroom e)
        rw [Hfin.out] at hKr
        obtain ⟨t, Ht⟩ : ∃ t, Hid (p + c = t) := ⟨_, rfl⟩
        rw [Ht.out] at hKr
        have htR : t < R512 := by rw [← Ht.out]; exact hroom
        have Htr : Hid (t % LL = r) := by show _ = _; rw [← Ht.out]; exact Hr.out
        go_upto_region 11 with fail
        go_wp2_with (refine wpList_load_own (by rfl) 63 (.tmp 7) (by rfl) g (by rfl) (A8 (dig t)) _ hKr.h1 Tryz.underlying63 (by rfl) infoA8 ?_)
        refine (modL_any t htR _).mono ?_
        rintro e w5 ⟨rfl, b5⟩
        rw [Htr.out]
        have hK5 := hKr.below b5
        go_wp2_with fail
        refine (bytesOf_any r _).mono ?_
        rintro e w6 ⟨rfl, b6⟩
        have hK6 := hK5.below b6
        go_wp2_with (refine wpList_store_own (by rfl) 22 (.tmp 6) (.tmp 41) (by rfl) bR 0 (B32 (bdig r)) (by rfl) (by rfl) hK6.h3 (B32_le _ _) (B32_info _) (B32_one _) (by rfl) ?_)
        refine bodyPost_ret (results_own Tryz.results27 _ _ bR (B32 (bdig r)) _ (by rfl) (own_setCells hK6.h3 (B32_sizes _ _)) Tryz.underlying22 rfl (B32_info _)) rfl ⟨rfl, ?_⟩
        exact Below.setCells _ _ _ _ hleR hK6.2
end Go.Proofs.YtfkcphbbabaefaaGreatDoor
