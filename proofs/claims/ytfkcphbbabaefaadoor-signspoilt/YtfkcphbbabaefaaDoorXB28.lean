/- Of the texts SA, SC1, VA: what the card of this claim reaches. -/
import Derived.Test.YtfkcphbbabaefaaDoorXB3
import Derived.Test.YtfkcphbbabaefaaDoorXB8
import Derived.Test.YtfkcphbbabaefaaDoorXB27
import Derived.Test.YtfkcphbbabaefaaDoorXB26
import Derived.Test.YtfkcphbbabaefaaDoorXB12
import Derived.Test.YtfkcphbbabaefaaDoorXB9
namespace Go.Proofs.YtfkcphbbabaefaaDoor
open Go.RowKit
theorem modL_half {t i n b : Nat} (hn : n = t / 2 ^ (i + 1) % LL) (hb : t / 2 ^ i % 2 = b) : t / 2 ^ i % LL = (n + n + b) % LL := by
  have h : t / 2 ^ i = t / 2 ^ (i + 1) * 2 + b := by
    have : t / 2 ^ (i + 1) = t / 2 ^ i / 2 := by rw [Nat.pow_succ, Nat.div_div_eq_div_mul]
    omega
  rw [h, hn]
  generalize t / 2 ^ (i + 1) = x
  rw [Nat.add_mod (x % LL + x % LL), ← Nat.add_mod x x, ← Nat.add_mod, Nat.mul_two]
theorem modL_low {t i n b s : Nat} (hn : n = t / 2 ^ (i + 1) % LL) (hb : t / 2 ^ i % 2 = b) (hs : n + n + b = s) (hl : s < LL) : s = t / 2 ^ i % LL := by
  rw [modL_half hn hb, hs, Nat.mod_eq_of_lt hl]
theorem modL_high {t i n b s y : Nat} (hn : n = t / 2 ^ (i + 1) % LL) (hb : t / 2 ^ i % 2 = b) (hs : n + n + b = s) (hy : s = y + LL) (hl : y < LL) : y = t / 2 ^ i % LL := by
  rw [modL_half hn hb, hs, hy, Nat.add_mod_right, Nat.mod_eq_of_lt hl]
theorem pow_two_add {a b n A B : Nat} (ha : 2 ^ a = A) (hb : 2 ^ b = B) (e : n = a + b) : 2 ^ n = A * B := by rw [e, Nat.pow_add, ha, hb]
theorem two512 {n : Nat} (e : n = 256 + 256) : 2 ^ n = R512 := (pow_two_add (show 2 ^ 256 = R256 by decide) (show 2 ^ 256 = R256 by decide) e).trans R512_eq.symm
theorem modL_from (t n : Nat) (e : n = 256 + 256) (ht : t < R512) : 0 = t / 2 ^ n % LL := by
  rw [two512 e, Nat.div_eq_of_lt ht, Nat.zero_mod]
theorem A4_upd {f : Nat → Nat} {k v n : Nat} (hk : k < 4) (hf : ∀ i, i < 4 → f i < 18446744073709551616) (hv : v < 18446744073709551616) (e : vl (upd f k v) 4 = n) : (A4 f).setIfInBounds k (.int .u64 (v : Int)) = numA n := by
  rw [A4_set f k v hk, ← e]
  exact A4_num _ fun i hi => by
    by_cases h : i = k
    · rw [h, upd_same]; exact hv
    · rw [upd_other _ _ _ _ h]; exact hf i hi
theorem or_end (s b : Nat) (hb : b < 2) (hs : s % 2 = 0) : bits .or .u64 (dig s 0 : Int) (b : Int) = ((dig s 0 + b : Nat) : Int) := by
  have h0 : dig s 0 % 2 = 0 := by
    unfold dig
    rw [Nat.pow_zero, Nat.div_one]; omega
  rw [u64_or_nat (dig s 0) b (dig_lt s 0) (by omega), Nat.or_comm, nat_join1' (dig s 0) b h0 hb]
theorem num_end {s b n : Nat} (hs : s < R256) (h2 : s % 2 = 0) (hb : b < 2) (hn : s + b = n) : (numA s).setIfInBounds 0 (.int .u64 ((dig s 0 + b : Nat) : Int)) = numA n := by
  have h0 : dig s 0 % 2 = 0 := by
    unfold dig
    rw [Nat.pow_zero, Nat.div_one]; omega
  have hd := dig_lt s 0
  refine A4_upd (by decide) (fun i _ => dig_lt s i) (by omega) ?_
  have h := vl_upd_eq (dig s) 0 (dig s 0 + b) 4 (by decide)
  rw [vl_num s hs, Nat.pow_zero] at h
  omega
theorem even_sum {n s : Nat} (h : n + n = s) : s % 2 = 0 := by omega
end Go.Proofs.YtfkcphbbabaefaaDoor
namespace Go.Proofs.YtfkcphbbabaefaaDoor
open Go.RowKit
theorem add_fitL {a b s : Nat} (ha : a < R256) (hb : b < R256) (hs : a + b = s) (h : s < R256) (w : World) :
    Calls Tryd.prog 74 #[.agg (numA a), .agg (numA b)] w fun e w' => e = .returned (.tuple #[.agg (numA s), .int .u64 0]) ∧ Below w.heap.size w w' := by
  refine (add_any a b ha hb w).mono ?_
  rintro e w' ⟨⟨d, c, rfl, hd, hc, he⟩, hB⟩
  have : c = 0 ∨ c = 1 := by omega
  rcases this with rfl | rfl
  · obtain rfl : d = s := by omega
    exact ⟨rfl, hB⟩
  · omega
def valML (u : Nat) (d : Bool) : Nat → Value
  | 0 => .agg (numA u)
  | 1 => .agg (numA LL)
  | 2 => .bool d
  | 3 => .bool (!d)
  | _ => undef
def valMS (u y : Nat) : Nat → Value
  | 0 => .agg (numA u)
  | 1 => .agg (numA LL)
  | 2 => .tuple #[.agg (numA y), .int .u64 0]
  | 3 => .tuple #[.agg (numA y), .int .u64 0]
  | 4 => .agg (numA y)
  | 5 => .int .u64 0
  | _ => undef
set_option maxRecDepth 100000 in
set_option maxHeartbeats 8000000 in
theorem modL_any (t : Nat) (ht : t < R512) (w : World) : Calls Tryd.prog 82 #[.agg (A8 (dig t))] w fun x w' => x = .returned (.agg (numA (t % LL))) ∧ Below w.heap.size w w' := by
  obtain ⟨r, Hr⟩ : ∃ r, Hid (t % LL = r) := ⟨_, rfl⟩
  rw [Hr.out]
  have hz := (zero_of_info zeroNum).1
  go_enter Tryd.func82, Tryd.ntmps82
  go_wp2_with fail
  have hK0 := (((Kp.nil w).alloc (A8 (dig t)) 55).alloc (numA 0) 35).alloc (numA 0) 35
  rw [World.size_alloc, World.size_alloc] at hK0
  rw [← zero_num]
  generalize ((w.alloc (.cells (A8 (dig t)) 55)).alloc (.cells (numA 0) 35)).alloc (.cells (numA 0) 35) = W at *
  obtain ⟨bT, HT⟩ : ∃ bT, Hid (w.heap.size = bT) := ⟨_, rfl⟩
  obtain ⟨bR, HR⟩ : ∃ bR, Hid (bT + 1 = bR) := ⟨_, rfl⟩
  obtain ⟨bO, HO⟩ : ∃ bO, Hid (bR + 1 = bO) := ⟨_, rfl⟩
  have hle : w.heap.size ≤ bR := by have := HT.out; have := HR.out; omega
  have hleO : w.heap.size ≤ bO := by have := HO.out; omega
  have n1 : bT ≠ bO := by have := HR.out; have := HO.out; omega
  have n2 : bR ≠ bO := by have := HO.out; omega
  rw [HT.out, HR.out, HO.out] at hK0 ⊢
  have hnot : ∀ p ∈ [(bR, numA 0, 35), (bT, A8 (dig t), 55)], p.1 ≠ bO := by simp; omega
  go_loopw [4] (fun ii wr => ∃ (j n : Nat), j ≤ 512 ∧ ii = .int .i64 ((j : Int) - 1) ∧ n < LL ∧ Hid (n = t / 2 ^ j % LL) ∧ Kp [(bO, numA n, 35), (bR, numA 0, 35), (bT, A8 (dig t), 55)] w wr) (fun ii _ => (intOf ii + 1).toNat)
  case atStart => exact ⟨512, 0, by omega, rfl, LL_pos, modL_from t 512 rfl ht, hK0⟩
  case round =>
    obtain ⟨j, n, hj, rfl, hnL, Hn, hKr⟩ := hrel
    have hn : n < R256 := Nat.lt_trans hnL LL_lt
    cases j with
    | zero =>
      rw [show (((0 : Nat) : Int) - 1) = -1 from rfl]
      have Hend : Hid (n = r) := by
        show _ = _
        rw [Hn.out, Nat.pow_zero, Nat.div_one, Hr.out]
      go_upto_region 9 with fail
      go_wp2_with (first
        | refine wpList_load_own (by rfl) 35 (.tmp 3) (by rfl) bO (by rfl) (numA n) _ hKr.h1 Tryd.underlying35 (by rfl) (numA_info n) ?_
        | refine wpList_store_own (by rfl) 35 (.tmp 2) (.tmp 38) (by rfl) bR 0 (numA n) (by rfl) (by rfl) hKr.h2 (Nat.le_refl _) (numA_info n) (numA_one n) (by rfl) ?_)
      refine bodyPost_ret (results_own Tryd.results82 _ _ bR (numA n) _ (by rfl) (own_setCells hKr.h2 (numA_sizes n 0)) Tryd.underlying35 rfl (numA_info n)) rfl ⟨by rw [Hend.out], ?_⟩
      exact Below.setCells _ _ _ _ hle hKr.2
    | succ i =>
      rw [show (((i + 1 : Nat) : Int) - 1) = (i : Int) by omega]
      have hi0 : (0 : Int) ≤ (i : Int) := by omega
      have hi1 : (i : Int) < 512 := by omega
      obtain ⟨s, Hs⟩ : ∃ s, Hid (n + n = s) := ⟨_, rfl⟩
      have h2L := twoL
      have hs : s < R256 := by have := Hs.out; omega
      have hs2 : s % 2 = 0 := even_sum Hs.out
      obtain ⟨b, Hb⟩ : ∃ b, Hid (t / 2 ^ i % 2 = b) := ⟨_, rfl⟩
      have hb : b < 2 := by rw [← Hb.out]; exact Nat.mod_lt _ (by decide)
      obtain ⟨u, Hu⟩ : ∃ u, Hid (s + b = u) := ⟨_, rfl⟩
      have hu : u < R256 := by have := Hu.out; have := Hs.out; omega
      have hu2 : Hid (u < 2 * LL) := by show _ < _; have := Hu.out; have := Hs.out; omega
      have Hnb : Hid (n + n + b = u) := by show _ = _; rw [Hs.out]; exact Hu.out
      clear h2L
      go_upto_region 5 with fail
      go_wp2_with (refine wpList_load_own (by rfl) 35 (.tmp 3) (by rfl) bO (by rfl) (numA n) _ hKr.h1 Tryd.underlying35 (by rfl) (numA_info n) ?_)
      refine (add_fitL hn hn Hs.out hs wr).mono ?_
      rintro x w1 ⟨rfl, hB1⟩
      have hK2 := hKr.below hB1
      have hK3 := hK2.set (A' := numA s) hnot hleO (numA_sizes s n)
      go_upto_region 6 with (refine wpList_store_own (by rfl) 35 (.tmp 3) (.tmp 13) (by rfl) bO 0 (numA s) (by rfl) (by rfl) hK2.h1 (Nat.le_refl _) (numA_info s) (numA_one s) (by rfl) ?_)
      generalize w1.setCells bO 0 (numA s).toList = W2 at *
      clear hK2 hB1
      have hdv : (i : Int).tdiv 64 = ((i / 64 : Nat) : Int) := by rw [Int.tdiv_eq_ediv_of_nonneg (by omega)]; omega
      have hmd : (i : Int).tmod 64 = ((i % 64 : Nat) : Int) := by rw [Int.tmod_eq_emod_of_nonneg (by omega)]; omega
      have hd8 : i / 64 < 8 := by omega
      have cO := hK3.h1.cell (numA_at s 0 (by decide))
      have fO := hK3.h1.frozen 0
      have cT := hK3.h3.cell (A8_at (dig t) (i / 64) hd8)
      have hbit := bit_u64 t i
      rw [Hb.out] at hbit
      have hor := or_end s b hb hs2
      have hd40 : (0 : Int) ≤ ((i / 64 : Nat) : Int) := by omega
      have hd41 : ((i / 64 : Nat) : Int) < 8 := by omega
      have hm0 : (0 : Int) ≤ ((i % 64 : Nat) : Int) := by omega
      have hm1 : ((i % 64 : Nat) : Int) < 64 := by omega
      have hK4 := Kp.setCell (i := 0) (v := .int .u64 ((dig s 0 + b : Nat) : Int)) hK3 hnot hleO
      rw [num_end hs hs2 hb Hu.out] at hK4
      have HK4 := show Hid _ from hK4
      clear hK4 hs2
      generalize dig s 0 + b = v at *
      generalize dig s 0 = e0 at *
      generalize dig t (i / 64) = e at *
      generalize i / 64 = D at *
      generalize i % 64 = M at *
      go_region
      have hK5 := Kp.below HK4.out ((Below.refl _ _).drew)
      clear hK3 HK4 cO fO cT hbit hor hdv hmd
      obtain ⟨d, Hd⟩ : ∃ d, Hid (decide (u < LL) = d) := ⟨_, rfl⟩
      go_upto_region 7 with fail
      refine wp_region_vals 39 (by kernel_rfl) (by kernel_rfl) (by rfl) (valML u d) (fun _ => Kp [(bO, numA u, 35), (bR, numA 0, 35), (bT, A8 (dig t), 55)] w) (Kp.drew hK5) ?_ ?_
      · intro L ac wc i o hF hLi ho hd K hK
        rcases i with _ | _ | _ | _ | i
        · have ho' := ho
          obtain rfl := Option.some.inj ho
          have f3 : ac.tmps.getD 3 undef = .pointer (some ⟨bO, 0, none⟩) := slotv hF 0 hLi 3 (by kernel_rfl)
          refine step_do ho' (wanted_free rfl) ?_
          exact wp_load_own 35 (.tmp 3) rfl bO f3 (numA u) _ 35 hF.j.h1 Tryd.underlying35 rfl (numA_info _) (hK _ _ (.inr rfl) hF.j)
        · have ho' := ho
          obtain rfl := Option.some.inj ho
          refine step_do ho' (wanted_free rfl) ?_
          unfold Oper.wp
          go_simp
          refine (L_any _).mono ?_
          rintro e w' ⟨rfl, hB⟩
          exact hK _ _ (.inr rfl) (hF.j.below hB)
        · have ho' := ho
          obtain rfl := Option.some.inj ho
          have f28 : ac.tmps.getD 28 undef = .agg (numA u) := valv hF hd 0 rfl rfl (by kernel_rfl)
          have f29 : ac.tmps.getD 29 undef = .agg (numA LL) := valv hF hd 1 rfl rfl (by kernel_rfl)
          refine step_do ho' (wanted_free rfl) ?_
          unfold Oper.wp
          go_simp
          refine (less_any u LL hu LL_lt _).mono ?_
          rintro e w' ⟨rfl, hB⟩
          rw [Hd.out]
          exact hK _ _ (.inr rfl) (hF.j.below hB)
        · have ho' := ho
          obtain rfl := Option.some.inj ho
          have f30 : ac.tmps.getD 30 undef = .bool d := valv hF hd 2 rfl rfl (by kernel_rfl)
          refine step_do ho' (wanted_free rfl) ?_
          unfold Oper.wp
          go_simp
          exact hK _ _ (.inr rfl) hF.j
        · cases ho
      · intro L wq hL hK6
        simp only [putAll, valML, Act.put, List.setIfInBounds_toArray, List.set_cons_succ, List.set_cons_zero]
        clear hL hK5
        cases d with
        | true =>
          have hlt := of_decide_eq_true Hd.out
          have Hst := show Hid _ from modL_low Hn.out Hb.out Hnb.out hlt
          have HL := show Hid _ from hlt
          clear hlt
          go_wp2_with fail
          exact ⟨⟨i, u, by omega, rfl, HL.out, Hst.out, hK6⟩, by simp [intOf]⟩
        | false =>
          have hge := of_decide_eq_false Hd.out
          obtain ⟨y, Hy⟩ : ∃ y, Hid (u = y + LL) := ⟨u - LL, by show _ = _; omega⟩
          have HL : Hid (y < LL) := by show _ < _; have := Hy.out; have := hu2.out; omega
          have Hst := show Hid _ from modL_high Hn.out Hb.out Hnb.out Hy.out HL.out
          clear hge
          go_upto_region 8 with fail
          refine wp_region_vals 39 (by kernel_rfl) (by kernel_rfl) (by rfl) (valMS u y) (fun L => Kp [(bO, if L 6 = true then numA y else numA u, 35), (bR, numA 0, 35), (bT, A8 (dig t), 55)] w) hK6.drew ?_ ?_
          · intro L ac wc i o hF hLi ho hd K hK
            rcases i with _ | _ | _ | _ | _ | _ | _ | i
            · have ho' := ho
              obtain rfl := Option.some.inj ho
              have f3 : ac.tmps.getD 3 undef = .pointer (some ⟨bO, 0, none⟩) := slotv hF 0 hLi 3 (by kernel_rfl)
              refine step_do ho' (wanted_free rfl) ?_
              have hn6 := notyet hF 0 hLi 6 rfl (by kernel_rfl)
              have hj := hF.j
              rw [hn6] at hj
              exact wp_load_own 35 (.tmp 3) rfl bO f3 (numA u) _ 35 hj.h1 Tryd.underlying35 rfl (numA_info _) (hK _ _ (.inr rfl) hF.j)
            · have ho' := ho
              obtain rfl := Option.some.inj ho
              refine step_do ho' (wanted_free rfl) ?_
              unfold Oper.wp
              go_simp
              refine (L_any _).mono ?_
              rintro e w' ⟨rfl, hB⟩
              exact hK _ _ (.inr rfl) (hF.j.below hB)
            · have ho' := ho
              obtain rfl := Option.some.inj ho
              have f33 : ac.tmps.getD 33 undef = .agg (numA u) := valv hF hd 0 rfl rfl (by kernel_rfl)
              have f34 : ac.tmps.getD 34 undef = .agg (numA LL) := valv hF hd 1 rfl rfl (by kernel_rfl)
              refine step_do ho' (wanted_free rfl) ?_
              unfold Oper.wp
              go_simp
              refine (sub_big hu LL_lt Hy.out _).mono ?_
              rintro e w' ⟨rfl, hB⟩
              exact hK _ _ (.inr rfl) (hF.j.below hB)
            · have ho' := ho
              obtain rfl := Option.some.inj ho
              have f35 : ac.tmps.getD 35 undef = .tuple #[.agg (numA y), .int .u64 0] := valv hF hd 2 rfl rfl (by kernel_rfl)
              refine step_do ho' (wanted_free rfl) ?_
              unfold Oper.wp
              go_simp
              exact hK _ _ (.inr rfl) hF.j
            · have ho' := ho
              obtain rfl := Option.some.inj ho
              have f32 : ac.tmps.getD 32 undef = .tuple #[.agg (numA y), .int .u64 0] := valv hF hd 3 rfl rfl (by kernel_rfl)
              refine step_do ho' (wanted_free rfl) ?_
              unfold Oper.wp
              go_simp
              exact hK _ _ (.inr rfl) hF.j
            · have ho' := ho
              obtain rfl := Option.some.inj ho
              have f32 : ac.tmps.getD 32 undef = .tuple #[.agg (numA y), .int .u64 0] := valv hF hd 3 rfl rfl (by kernel_rfl)
              refine step_do ho' (wanted_free rfl) ?_
              unfold Oper.wp
              go_simp
              exact hK _ _ (.inr rfl) hF.j
            · have ho' := ho
              obtain rfl := Option.some.inj ho
              have f3 : ac.tmps.getD 3 undef = .pointer (some ⟨bO, 0, none⟩) := slotv hF 6 hLi 3 (by kernel_rfl)
              have f36 : ac.tmps.getD 36 undef = .agg (numA y) := valv hF hd 4 rfl rfl (by kernel_rfl)
              refine step_do ho' (wanted_free rfl) ?_
              have hj := hF.j
              rw [hLi] at hj
              refine wp_store_own 35 (.tmp 3) (.tmp 36) rfl bO (numA y) f3 f36 hj.h1 (numA_sizes _ _) (numA_info _) (numA_one _) rfl ?_
              exact hK undef _ (.inl rfl) (Kp.set hj hnot hleO (numA_sizes _ _))
            · cases ho
          · intro L wz hL hK7
            rw [hL 6 (by decide)] at hK7
            simp only [putAll, valMS, Act.put, List.setIfInBounds_toArray, List.set_cons_succ, List.set_cons_zero]
            clear hL hK6
            go_wp2_with fail
            exact ⟨⟨i, y, by omega, rfl, HL.out, Hst.out, hK7⟩, by simp [intOf]⟩
end Go.Proofs.YtfkcphbbabaefaaDoor
namespace Go.Proofs.YtfkcphbbabaefaaDoor
open Go.RowKit
theorem vb_bound (f : Nat → Nat) (n : Nat) (hn : n ≤ 64) (hf : ∀ i, i < n → f i < 256) : vb f n < R512 :=
  Nat.lt_of_lt_of_le (vb_lt f n hf) (Nat.le_trans (Nat.pow_le_pow_right (by decide) hn) (by decide))
theorem A8_bytes {x k c : Nat} (hx : x < 256 ^ k) (hc : c < 256) (hk : k / 8 < 8) : (A8 (dig x)).setIfInBounds (k / 8) (.int .u64 ((dig x (k / 8) + c * 256 ^ (k % 8) : Nat) : Int)) = A8 (dig (x + c * 256 ^ k)) := by
  rw [A8_set _ _ _ hk, Nat.mul_comm c (256 ^ k)]
  exact A8_congr fun j _ => (dig_more hx hc j).symm
set_option maxRecDepth 100000 in
set_option maxHeartbeats 8000000 in
theorem modLs_any (f : Nat → Nat) (n bS cap : Nat) (hn : n ≤ 64) (hf : ∀ i, i < n → f i < 256) (w : World) (hbS : bS < w.heap.size) (hcell : ∀ i, i < n → w.cell? ⟨bS, i, none⟩ = some (.int .u8 (f i : Int))) :
    Calls Tryd.prog 55 #[.slice (some ⟨bS, 0, none⟩) n cap] w fun x w' => x = .returned (.agg (B32 (bdig (vb f n % LL)))) ∧ Below w.heap.size w w' := by
  have hz := (zero_of_info zeroB32).1
  have hz8 := (zero_of_info zeroA8).1
  go_enter Tryd.func55, Tryd.ntmps55
  go_wp2_with fail
  have hK0 := ((Kp.nil w).alloc (B32 fun _ => 0) 22).alloc (A8 (dig 0)) 55
  rw [World.size_alloc] at hK0
  rw [show (A8 fun _ => 0) = A8 (dig 0) from rfl]
  generalize (w.alloc (.cells (B32 fun _ => 0) 22)).alloc (.cells (A8 (dig 0)) 55) = W at *
  obtain ⟨bR, HR⟩ : ∃ bR, Hid (w.heap.size = bR) := ⟨_, rfl⟩
  obtain ⟨bO, HO⟩ : ∃ bO, Hid (bR + 1 = bO) := ⟨_, rfl⟩
  have hle : w.heap.size ≤ bR := Nat.le_of_eq HR.out
  have hleO : w.heap.size ≤ bO := by have := HO.out; omega
  have n2 : bR ≠ bO := by have := HO.out; omega
  rw [HR.out, HO.out] at hK0 ⊢
  have hnot : ∀ p ∈ [(bR, B32 fun _ => 0, 22)], p.1 ≠ bO := by simp; omega
  go_loopw [4] (fun ii wr => ∃ (k x : Nat), k ≤ n ∧ ii = .int .i64 (k : Int) ∧ x < 256 ^ k ∧ Hid (vb f k = x) ∧ Kp [(bO, A8 (dig x), 55), (bR, B32 fun _ => 0, 22)] w wr) (fun ii _ => n - (intOf ii).toNat)
  case atStart => exact ⟨0, 0, by omega, rfl, by decide, rfl, hK0⟩
  case round =>
    obtain ⟨k, x, hk, rfl, hx, Hx, hKr⟩ := hrel
    have hk0 : (0 : Int) ≤ (k : Int) := by omega
    by_cases hlt : k < n
    · have hki : (k : Int) < (n : Int) := by omega
      have hd4 : k / 8 < 8 := by omega
      have cA := ((bcell hKr.2).1 bS k hbS).trans (hcell k hlt)
      have cO := hKr.h1.cell (A8_at (dig x) (k / 8) hd4)
      have fO := hKr.h1.frozen (k / 8)
      have hc := hf k hlt
      have hdv : (k : Int).tdiv 8 = ((k / 8 : Nat) : Int) := by rw [Int.tdiv_eq_ediv_of_nonneg (by omega)]; omega
      have hmd : (k : Int).tmod 8 = ((k % 8 : Nat) : Int) := by rw [Int.tmod_eq_emod_of_nonneg (by omega)]; omega
      have hd40 : (0 : Int) ≤ ((k / 8 : Nat) : Int) := by omega
      have hd41 : ((k / 8 : Nat) : Int) < 8 := by omega
      have hm0 : (0 : Int) ≤ 8 * ((k % 8 : Nat) : Int) := by omega
      have hm1 : 8 * ((k % 8 : Nat) : Int) < 64 := by omega
      have hm2 : ((k % 8 : Nat) : Int) < 8 := by omega
      have hm3 : (0 : Int) ≤ ((k % 8 : Nat) : Int) := by omega
      have hs := shl_byte (k := k) hc
      have hor := or_byte hx hc
      have hK1 := Kp.setCell (i := k / 8) (v := .int .u64 ((dig x (k / 8) + f k * 256 ^ (k % 8) : Nat) : Int)) hKr hnot hleO
      rw [A8_bytes hx hc hd4] at hK1
      have HK2 := show Hid _ from hK1
      have Hnew : Hid (x + f k * 256 ^ k < 256 ^ (k + 1) ∧ vb f (k + 1) = x + f k * 256 ^ k) := by
        have e : vb f (k + 1) = x + f k * 256 ^ k := by rw [vb, Hx.out]
        exact ⟨by rw [← e]; exact vb_lt f (k + 1) fun i hi => hf i (by omega), e⟩
      clear hK1
      have hc0 : (0 : Int) ≤ ((f k : Nat) : Int) := by omega
      have hc1 : ((f k : Nat) : Int) < 256 := by omega
      generalize x + f k * 256 ^ k = x' at *
      generalize dig x (k / 8) + f k * 256 ^ (k % 8) = v at *
      generalize f k * 256 ^ (k % 8) = u at *
      generalize hCC : f k = c at cA hs hc0 hc1
      clear hCC
      generalize dig x (k / 8) = d at *
      generalize k / 8 = D at *
      generalize k % 8 = M at *
      go_wp2_with fail
      go_region
      go_wp2_with fail
      refine ⟨⟨k + 1, x', by omega, by go_num, Hnew.out.1, Hnew.out.2, Kp.below HK2.out ((Below.refl _ _).drew)⟩, by simp [intOf]; omega⟩
    · have hki : ¬ (k : Int) < (n : Int) := by omega
      have hxR : x < R512 := by rw [← Hx.out]; exact vb_bound f k (by omega) fun i hi => hf i (by omega)
      have He : Hid (vb f n % LL = x % LL) := by
        show _ = _
        rw [← Hx.out, show k = n by omega]
      go_upto_region 6 with fail
      go_wp2_with (refine wpList_load_own (by rfl) 55 (.tmp 3) (by rfl) bO (by rfl) (A8 (dig x)) _ hKr.h1 Tryd.underlying55 (by rfl) infoA8 ?_)
      refine (modL_any x hxR _).mono ?_
      rintro e w1 ⟨rfl, b1⟩
      have hK1 := hKr.below b1
      go_wp2_with fail
      refine (bytesOf_any _ _).mono ?_
      rintro e w2 ⟨rfl, b2⟩
      have hK2 := hK1.below b2
      go_wp2_with (refine wpList_store_own (by rfl) 22 (.tmp 2) (.tmp 29) (by rfl) bR 0 (B32 (bdig (x % LL))) (by rfl) (by rfl) hK2.h2 (B32_le _ _) (B32_info _) (B32_one _) (by rfl) ?_)
      refine bodyPost_ret (results_own Tryd.results55 _ _ bR (B32 (bdig (x % LL))) _ (by rfl) (own_setCells hK2.h2 (B32_sizes _ _)) Tryd.underlying22 rfl (B32_info _)) rfl ⟨by rw [He.out], ?_⟩
      exact Below.setCells _ _ _ _ hle hK2.2
set_option maxRecDepth 100000 in
set_option maxHeartbeats 4000000 in
theorem below_any (a : Nat) (ha : a < R256) (w : World) : Calls Tryd.prog 23 #[.agg (B32 (bdig a))] w fun x w' => x = .returned (.bool (decide (a < LL))) ∧ Below w.heap.size w w' := by
  go_enter Tryd.func23, Tryd.ntmps23
  go_upto_region 1 with fail
  have hK := (Kp.nil w).alloc (B32 (bdig a)) 22
  generalize w.alloc (.cells (B32 (bdig a)) 22) = W at *
  obtain ⟨bA, HA⟩ : ∃ bA, Hid (w.heap.size = bA) := ⟨_, rfl⟩
  rw [HA.out] at hK ⊢
  go_wp2_with (refine wpList_load_own (by rfl) 22 (.tmp 1) (by rfl) bA (by rfl) (B32 (bdig a)) _ hK.h1 Tryd.underlying22 (by rfl) (B32_info _) ?_)
  refine (of_any a ha W).mono ?_
  rintro e w1 ⟨rfl, b1⟩
  have bw := bel hK.2 b1
  go_wp2_with fail
  refine (L_any w1).mono ?_
  rintro e w2 ⟨rfl, b2⟩
  have bw := bel bw b2
  go_wp2_with fail
  refine (less_any a LL ha LL_lt w2).mono ?_
  rintro e w3 ⟨rfl, b3⟩
  have bw := bel bw b3
  go_wp2
  go_ret
  exact ⟨rfl, bw⟩
end Go.Proofs.YtfkcphbbabaefaaDoor
namespace Go.Proofs.YtfkcphbbabaefaaDoor
open Go Go.RowKit
theorem pmodL64 {a c bS cap : Nat} {w : World} {t : TypeId} (ho : Own w bS (B64 (bdig a)) t) (ha : a < R512) (hc : a % LL = c) : Calls Tryd.prog 55 #[.slice (some ⟨bS, 0, none⟩) 64 cap] w fun x w' => x = .returned (.agg (B32 (bdig c))) ∧ Below w.heap.size w w' := by
  have h := modLs_any (bdig a) 64 bS cap (by decide) (fun i _ => bdig_lt a i) w ho.lt (fun i hi => ho.cell (B64_at _ i hi))
  rw [vb64 ha, hc] at h
  exact h
theorem pjoin {a : Option Addr} {len cap : Nat} {ms : List (List Int)} {l : List Int} (hl : ms.flatten = l) (hn : l.length ≤ 1000000) (w : World) (hR : H.RowsV w a len cap ms) :
    Calls Tryd.prog 54 #[.slice a len cap] w fun e w' => ∃ a' cap', e = .returned (.slice a' l.length cap') ∧ H.BytesV w' a' l.length cap' l ∧ (a' = none → cap' = 0) ∧ Below w.heap.size w w' := by
  subst hl; exact H.join_any a len cap ms w hR hn
theorem psum512 {a : Option Addr} {cap z : Nat} {l : List Int} (hz : dn l = z) (hn : l.length ≤ 1000000) (w : World) (hm : Txt w a cap l) :
    Calls Tryd.prog 53 #[.slice a l.length cap] w fun e w' => e = .returned (.agg (B64 (bdig z))) ∧ Below w.heap.size w w' := by
  subst hz; rw [← dig_dn]; exact H.ref_any a cap l w hm.1 hm.2 hn
def factChal (z bA bB : Nat) (ta : Option Addr) (tc : Nat) (m l : List Int) : Nat → Value → Prop
  | 0, vq => vq = .slice (some ⟨bA, 0, none⟩) 32 32
  | 1, vq => vq = .slice (some ⟨bB, 0, none⟩) 32 32
  | 2, vq => vq = .slice ta m.length tc
  | 5, vq => vq = .agg (B64 (bdig z))
  | 6, vq => ∃ g, vq = .pointer (some ⟨g, 0, none⟩)
  | 3, vq => ∃ aq, vq = .slice aq 3 3
  | 4, vq => ∃ aq cq, vq = .slice aq l.length cq
  | _, _ => True
set_option maxRecDepth 100000 in
set_option maxHeartbeats 1000000 in
theorem challenge_at {p q k : Nat} {ta : Option Addr} {tc : Nat} {m : List Int} (Hk : Hid (dn (by32 p ++ (by32 q ++ m)) % LL = k)) (hl : m.length ≤ 1000) (w : World) (hm : Txt w ta tc m) : Calls Tryd.prog 26 #[.agg (B32 (bdig p)), .agg (B32 (bdig q)), .slice ta m.length tc] w fun x w' => x = .returned (.agg (B32 (bdig k))) ∧ Below w.heap.size w w' := by
  have hz := (zero_of_info zeroB32).1
  have hz64 := (zero_of_info zeroB64).1
  obtain ⟨l, Hl⟩ : ∃ l, Hid (by32 p ++ (by32 q ++ m) = l) := ⟨_, rfl⟩
  obtain ⟨z, Hz⟩ : ∃ z, Hid (dn l = z) := ⟨_, rfl⟩
  have hzl : Hid (z < R512) := by show _ < _; rw [← Hz.out]; exact dn_lt _
  have hzk : Hid (z % LL = k) := by show _ = _; rw [← Hz.out, ← Hl.out]; exact Hk.out
  have hfl : Hid ([by32 p, by32 q, m].flatten = l) := by show _ = _; rw [← Hl.out]; simp
  have hln : Hid (l.length ≤ 1000000) := by show _ ≤ _; rw [← Hl.out, List.length_append, List.length_append, by32_length, by32_length]; omega
  go_enter Tryd.func26, Tryd.ntmps26
  go_upto_region 1 with fail
  have hK := (((Kp.nil w).alloc (B32 (bdig p)) 22).alloc (B32 (bdig q)) 22).alloc (B32 fun _ => 0) 22
  rw [World.size_alloc, World.size_alloc] at hK
  generalize ((w.alloc (.cells (B32 (bdig p)) 22)).alloc (.cells (B32 (bdig q)) 22)).alloc (.cells (B32 fun _ => 0) 22) = W at *
  obtain ⟨bA, HbA⟩ : ∃ b, Hid (w.heap.size = b) := ⟨_, rfl⟩
  obtain ⟨bB, HbB⟩ : ∃ b, Hid (bA + 1 = b) := ⟨_, rfl⟩
  obtain ⟨bR, HbR⟩ : ∃ b, Hid (bB + 1 = b) := ⟨_, rfl⟩
  have le_bA : Hid (w.heap.size ≤ bA) := by show _ ≤ _; have := HbA.out; omega
  have le_bB : Hid (w.heap.size ≤ bB) := by show _ ≤ _; have := HbA.out; have := HbB.out; omega
  have le_bR : Hid (w.heap.size ≤ bR) := by show _ ≤ _; have := HbA.out; have := HbB.out; have := HbR.out; omega
  have ne_bA_bB : Hid (bA ≠ bB) := by show _ ≠ _; have := HbB.out; omega
  have ne_bA_bR : Hid (bA ≠ bR) := by show _ ≠ _; have := HbB.out; have := HbR.out; omega
  have ne_bB_bR : Hid (bB ≠ bR) := by show _ ≠ _; have := HbR.out; omega
  rw [HbA.out, HbB.out, HbR.out] at hK ⊢
  refine wp_region_told 16 (by kernel_rfl) (by kernel_rfl) (by rfl) (factChal z bA bB ta tc m l) (fun L vs wq => MkN 1 [(bR, B32 fun _ => 0, 22), (bB, B32 (bdig q), 22), (bA, B32 (bdig p), 22)] w (fun _ => B64 fun _ => 0) (fun _ => B64 (bdig z)) (fun _ => 24) (fun i => L (6 + i)) (fun i => L (7 + i)) (fun i => vs (6 + i)) wq ∧ (L 3 = true → L 4 = false → ∃ aq, vs 3 = .slice aq 3 3 ∧ H.RowsV wq aq 3 3 [by32 p, by32 q, m]) ∧ (L 4 = true → L 5 = false → ∃ aq cq, vs 4 = .slice aq l.length cq ∧ Txt wq aq cq l)) (fun _ => ⟨MkN.drew hK (fun _ _ => rfl), (fun h => by cases h), (fun h => by cases h)⟩) ?_ ?_
  · intro L vs ac wc i o hF hLi ho hd K hK
    rcases i with _ | _ | _ | _ | _ | _ | _ | _ | i
    · have ho' := ho
      obtain rfl := Option.some.inj ho
      have f3 : ac.tmps.getD 3 undef = .pointer (some ⟨bA, 0, none⟩) := slott hF 0 hLi 3 (by kernel_rfl)
      refine step_do ho' (wanted_free rfl) ?_
      unfold Oper.wp
      go_simp
      exact hK _ _ (.inr rfl) ⟨(hF.j.1.congr (fun i hi => if_off (by decide) hi) (fun i hi => if_off (by decide) hi) (fun i hi => if_off (by decide) hi)), hF.j.2.1, hF.j.2.2⟩
    · have ho' := ho
      obtain rfl := Option.some.inj ho
      have f4 : ac.tmps.getD 4 undef = .pointer (some ⟨bB, 0, none⟩) := slott hF 1 hLi 4 (by kernel_rfl)
      refine step_do ho' (wanted_free rfl) ?_
      unfold Oper.wp
      go_simp
      exact hK _ _ (.inr rfl) ⟨(hF.j.1.congr (fun i hi => if_off (by decide) hi) (fun i hi => if_off (by decide) hi) (fun i hi => if_off (by decide) hi)), hF.j.2.1, hF.j.2.2⟩
    · have ho' := ho
      obtain rfl := Option.some.inj ho
      have f2 : ac.tmps.getD 2 undef = .slice ta m.length tc := slott hF 2 hLi 2 (by kernel_rfl)
      refine step_do ho' (wanted_free rfl) ?_
      unfold Oper.wp
      go_simp
      exact hK _ _ (.inr rfl) ⟨(hF.j.1.congr (fun i hi => if_off (by decide) hi) (fun i hi => if_off (by decide) hi) (fun i hi => if_off (by decide) hi)), hF.j.2.1, hF.j.2.2⟩
    · have ho' := ho
      obtain rfl := Option.some.inj ho
      have f8 : ac.tmps.getD 8 undef = .slice (some ⟨bA, 0, none⟩) 32 32 := (factt hF hd 0 rfl rfl (by kernel_rfl)).1.trans (factt hF hd 0 rfl rfl (by kernel_rfl)).2
      have f9 : ac.tmps.getD 9 undef = .slice (some ⟨bB, 0, none⟩) 32 32 := (factt hF hd 1 rfl rfl (by kernel_rfl)).1.trans (factt hF hd 1 rfl rfl (by kernel_rfl)).2
      have f10 : ac.tmps.getD 10 undef = .slice ta m.length tc := (factt hF hd 2 rfl rfl (by kernel_rfl)).1.trans (factt hF hd 2 rfl rfl (by kernel_rfl)).2
      refine step_do ho' (wanted_free rfl) ?_
      have q8 := getq f8
      have q9 := getq f9
      have q10 := getq f10
      unfold Oper.wp
      go_simp
      exact hK _ _ (.inr ⟨_, rfl⟩) ⟨((hF.j.1.congr (fun i hi => if_off (by decide) hi) (fun i hi => if_off (by decide) hi) (fun i hi => if_off (by decide) hi))).below (alloc_below _ _), (fun _ _ => ⟨_, rfl, rows3 (bytes_own (hF.j.1.1.at bA (B32 (bdig p)) 22 (.tail _ (.tail _ (.head _))))) (fun h => by cases h) (bytes_own (hF.j.1.1.at bB (B32 (bdig q)) 22 (.tail _ (.head _)))) (fun h => by cases h) ((hm.below hF.j.1.1.2).1) hm.2⟩), (fun h1 h2 => txt_bel (hF.j.2.2 h1 h2) (alloc_below _ _))⟩
    · have ho' := ho
      obtain rfl := Option.some.inj ho
      refine step_do ho' (wanted_free rfl) ?_
      obtain ⟨aq, eq, hq⟩ := hF.j.2.1 (dep hd 3 (by kernel_rfl)) hLi
      have f11 := (factt hF hd 3 rfl rfl (by kernel_rfl)).1
      rw [eq] at f11
      unfold Oper.wp
      go_simp
      refine (pjoin hfl.out hln.out _ hq).mono ?_
      rintro e w' ⟨aj, cj, rfl, hv, hn, hB⟩
      exact hK _ _ (.inr ⟨_, _, rfl⟩) ⟨((hF.j.1.congr (fun i hi => if_off (by decide) hi) (fun i hi => if_off (by decide) hi) (fun i hi => if_off (by decide) hi))).below hB, (fun _ h => by cases h), (fun _ _ => ⟨_, _, rfl, hv, hn⟩)⟩
    · have ho' := ho
      obtain rfl := Option.some.inj ho
      refine step_do ho' (wanted_free rfl) ?_
      obtain ⟨aq, cq, eq, hq⟩ := hF.j.2.2 (dep hd 4 (by kernel_rfl)) hLi
      have f12 := (factt hF hd 4 rfl rfl (by kernel_rfl)).1
      rw [eq] at f12
      unfold Oper.wp
      go_simp
      refine (psum512 Hz.out hln.out _ hq).mono ?_
      rintro e w' ⟨rfl, hB⟩
      exact hK _ _ (.inr rfl) ⟨((hF.j.1.congr (fun i hi => if_off (by decide) hi) (fun i hi => if_off (by decide) hi) (fun i hi => if_off (by decide) hi))).below hB, (fun h1 h2 => rows_bel (hF.j.2.1 h1 h2) hB), (fun _ h => by cases h)⟩
    · have ho' := ho
      obtain rfl := Option.some.inj ho
      refine step_do ho' (wanted_free rfl) ?_
      have hs := notyett hF 6 hLi 7 rfl (by kernel_rfl)
      unfold Oper.wp
      go_simp
      exact hK _ _ (.inr ⟨_, rfl⟩) ⟨hF.j.1.alloc 0 (fun i _ hne => if_oth (k := 0) rfl hne) (fun i hi => if_off (by decide) hi) (fun i _ hne => if_oth (k := 0) rfl hne) rfl hs, (fun h1 h2 => rows_bel (hF.j.2.1 h1 h2) (alloc_below _ _)), (fun h1 h2 => txt_bel (hF.j.2.2 h1 h2) (alloc_below _ _))⟩
    · have ho' := ho
      obtain rfl := Option.some.inj ho
      have f13 : ac.tmps.getD 13 undef = .agg (B64 (bdig z)) := (factt hF hd 5 rfl rfl (by kernel_rfl)).1.trans (factt hF hd 5 rfl rfl (by kernel_rfl)).2
      refine step_do ho' (wanted_free rfl) ?_
      have hq5 := dep hd 5 (by kernel_rfl)
      have hq4 := dept hF 5 rfl hq5 4 (by kernel_rfl)
      obtain ⟨fg, gq, hg⟩ := factt hF hd 6 rfl rfl (by kernel_rfl)
      have hm_ := dep hd 6 (by kernel_rfl)
      have hj := hF.j.1
      rw [hg] at fg
      have hj2 := hj.at (k := 0) (by decide) hm_ hg hLi
      refine wp_store_own 24 (.tmp 7) (.tmp 13) rfl gq (B64 (bdig z)) fg f13 hj2.2.2 (B64_sizes _ _) (B64_info _) (B64_one _) rfl ?_
      exact hK undef _ (.inl rfl) ⟨hj.storeA (k := 0) (A := B64 (bdig z)) rfl (by decide) hm_ hg hLi (B64_sizes _ _) (fun i hi => if_off (by decide) hi) (fun i _ hne => if_oth (k := 0) rfl hne) (fun i hi => if_off (by decide) hi) rfl, (fun _ h => by have h : L 4 = false := h; rw [hq4] at h; cases h), (fun _ h => by have h : L 5 = false := h; rw [hq5] at h; cases h)⟩
    · cases ho
  intro L vs V1 hL hJ hf
  have hJ := hJ.1
  obtain ⟨aq3, eb3⟩ := hf 3 _ _ rfl rfl
  obtain ⟨aq4, cq, eb4⟩ := hf 4 _ _ rfl rfl
  obtain ⟨g2, hgg2⟩ := hf 6 _ _ rfl rfl
  obtain ⟨le0, apg2, owng2⟩ := hJ.gotA (k := 0) (A := B64 (bdig z)) rfl (by decide) (hL 6 (by decide)) hgg2 (hL 7 (by decide))
  have le_g2 := show Hid _ from le0
  clear le0
  have ne_bR_g2 : Hid (bR ≠ g2) := apg2 (bR, B32 fun _ => 0, 22) (.head _)
  have ne_bB_g2 : Hid (bB ≠ g2) := apg2 (bB, B32 (bdig q), 22) (.tail _ (.head _))
  have ne_bA_g2 : Hid (bA ≠ g2) := apg2 (bA, B32 (bdig p), 22) (.tail _ (.tail _ (.head _)))
  have hK : Kp [(g2, B64 (bdig z), 24), (bR, B32 fun _ => 0, 22), (bB, B32 (bdig q), 22), (bA, B32 (bdig p), 22)] w V1 := (hJ.1.cons owng2)
  have e0 : vs 0 = _ := hf 0 _ _ rfl rfl
  have e1 : vs 1 = _ := hf 1 _ _ rfl rfl
  have e2 : vs 2 = _ := hf 2 _ _ rfl rfl
  have e5 : vs 5 = _ := hf 5 _ _ rfl rfl
  simp only [putAll, Nat.zero_add, Nat.reduceAdd, e0, e1, e2, e5, eb3, eb4, hgg2, Act.put, List.setIfInBounds_toArray, List.set_cons_succ, List.set_cons_zero]
  clear hJ hf hL e0 e1 e2 e5 eb3 eb4 hgg2 apg2 owng2
  go_wp2_with fail
  refine (pmodL64 (hK.at g2 (B64 (bdig z)) 24 (.head _)) hzl.out hzk.out).mono ?_
  rintro e V3 ⟨rfl, bw⟩
  have hK := hK.below bw
  clear bw
  go_wp2_with (refine wpList_store_own (op := { dst := none, op := _, type := _, pos := _, after := _, guard := _ }) rfl 22 (.tmp 6) (.tmp 15) rfl bR 0 (B32 (bdig k)) (by rfl) (by rfl) (hK.at bR (B32 fun _ => 0) 22 (.tail _ (.head _))) (B32_le _ _) (B32_info _) (B32_one _) (by rfl) ?_)
  exact bodyPost_ret (results_own Tryd.results26 _ _ bR (B32 (bdig k)) _ (by rfl) (own_setCells (hK.at bR (B32 fun _ => 0) 22 (.tail _ (.head _))) (B32_sizes _ _)) Tryd.underlying22 rfl (B32_info _)) rfl ⟨rfl, Below.setCells _ _ _ _ le_bR.out hK.2⟩
end Go.Proofs.YtfkcphbbabaefaaDoor
namespace Go.Proofs.YtfkcphbbabaefaaDoor
open Go Go.RowKit
def PA (r : N4) : Array Value := #[.int .u64 (dig r.X 0 : Int), .int .u64 (dig r.X 1 : Int), .int .u64 (dig r.X 2 : Int), .int .u64 (dig r.X 3 : Int), .int .u64 (dig r.Y 0 : Int), .int .u64 (dig r.Y 1 : Int), .int .u64 (dig r.Y 2 : Int), .int .u64 (dig r.Y 3 : Int), .int .u64 (dig r.Z 0 : Int), .int .u64 (dig r.Z 1 : Int), .int .u64 (dig r.Z 2 : Int), .int .u64 (dig r.Z 3 : Int), .int .u64 (dig r.T 0 : Int), .int .u64 (dig r.T 1 : Int), .int .u64 (dig r.T 2 : Int), .int .u64 (dig r.T 3 : Int)]
theorem infoPA : (Tryd.prog.info? 47).map (·.size) = some 16 := by kernel_rfl
theorem PA_info (r : N4) : (Tryd.prog.info? 47).map (·.size) = some (PA r).size := infoPA
theorem PA_one (r : N4) : (PA r).all (·.oneCell') = true := by simp [PA, Value.oneCell']
theorem PA_sizes (r s : N4) : (PA r).size = (PA s).size := rfl
theorem zeroPA : (Tryd.prog.info? 47).map (fun i => (i.zero, i.size)) = some (some (.agg (PA ⟨0, 0, 0, 0⟩)), 16) := by kernel_rfl
def N4.get (r : N4) : Nat → Nat
  | 0 => r.X
  | 1 => r.Y
  | 2 => r.Z
  | _ => r.T
theorem PA_part (r : N4) (k : Nat) (hk : k < 4) {w : World} {b : Nat} {t : TypeId} (h : Own w b (PA r) t) : w.rangeAt b (4 * k) (numA (r.get k)).toList := fun j v hv => by
  have hj : j < 4 := by
    have := (List.getElem?_eq_some_iff.1 hv).1
    simpa [numA, A4] using this
  refine h.cell ?_
  rw [← hv]
  rcases k with _ | _ | _ | _ | k
  · rcases j with _ | _ | _ | _ | j <;> first | rfl | omega
  · rcases j with _ | _ | _ | _ | j <;> first | rfl | omega
  · rcases j with _ | _ | _ | _ | j <;> first | rfl | omega
  · rcases j with _ | _ | _ | _ | j <;> first | rfl | omega
  · omega
theorem numA_len (n : Nat) : (Tryd.prog.info? 35).map (·.size) = some (numA n).toList.length := infoNum
theorem wp_load_part {op : Oper} {a : Act} {w : World} {K : Act → World → Prop} {Q : Exit → Act → World → Prop} (k : Nat) (hk : k < 4) (x : Operand) (ho : op.op = .load 35 x)
    (b : Nat) (hx : a.eval x = .pointer (some ⟨b, 4 * k, none⟩)) {r : N4} {t : TypeId} (hc : Own w b (PA r) t) (h : K (a.put op.dst (.agg (numA (r.get k)))) w) : op.wp Tryd.prog a w K Q :=
  wp_load_mid 35 x ho b (4 * k) hx (numA (r.get k)).toList _ (PA_part r k hk hc) Tryd.underlying35 rfl (numA_len _) h
theorem wpList_load_part {ops : Array Oper} {rest : List Oper} {op : Oper} {a : Act} {w : World} {Q : Exit → Act → World → Prop} (hgd : op.guard = none) (k : Nat) (hk : k < 4) (x : Operand) (ho : op.op = .load 35 x)
    (b : Nat) (hx : a.eval x = .pointer (some ⟨b, 4 * k, none⟩)) {r : N4} {t : TypeId} (hc : Own w b (PA r) t) (h : wpList Tryd.prog ops Q rest (a.put op.dst (.agg (numA (r.get k)))) w) : wpList Tryd.prog ops Q (op :: rest) a w :=
  wpList_load_mid hgd 35 x ho b (4 * k) hx (numA (r.get k)).toList _ (PA_part r k hk hc) Tryd.underlying35 rfl (numA_len _) h
end Go.Proofs.YtfkcphbbabaefaaDoor
namespace Go.Proofs.YtfkcphbbabaefaaDoor
open Go Go.RowKit
theorem subp_lt (a b : Nat) : subp a b < R256 := lt_of_mod
theorem fsub_at {a b c : Nat} (ha : a < R256) (hb : b < R256) (hc : subp a b = c) (w : World) : Calls Tryd.prog 47 #[.agg (numA a), .agg (numA b)] w fun e w' => e = .returned (.agg (numA c)) ∧ Below w.heap.size w w' := by
  rw [← hc]; exact fsub_any a b ha hb w
theorem fadd_at {a b c : Nat} (ha : a < R256) (hb : b < R256) (hc : (a + b) % pp = c) (w : World) : Calls Tryd.prog 49 #[.agg (numA a), .agg (numA b)] w fun e w' => e = .returned (.agg (numA c)) ∧ Below w.heap.size w w' := by
  rw [← hc]; exact fadd_any a b ha hb w
theorem inv_at {a c : Nat} (ha : a < R256) (hc : finv a = c) (w : World) : Calls Tryd.prog 48 #[.agg (numA a)] w fun x w' => x = .returned (.agg (numA c)) ∧ Below w.heap.size w w' := by
  rw [← hc]; exact inv_any a ha w
theorem finv_R (a : Nat) : finv a < R256 := Nat.lt_trans (finv_lt a) (by decide)
theorem PA_size (r : N4) : (PA r).size = 16 := rfl
theorem put0 (X Y Z T x : Nat) : Array.foldl (fun cs p => cs.setIfInBounds p.snd p.fst) (PA ⟨X, Y, Z, T⟩) (numA x).zipIdx 0 4 = PA ⟨x, Y, Z, T⟩ := by kernel_rfl
theorem put4 (X Y Z T x : Nat) : Array.foldl (fun cs p => cs.setIfInBounds (4 + p.snd) p.fst) (PA ⟨X, Y, Z, T⟩) (numA x).zipIdx 0 4 = PA ⟨X, x, Z, T⟩ := by kernel_rfl
theorem put8 (X Y Z T x : Nat) : Array.foldl (fun cs p => cs.setIfInBounds (8 + p.snd) p.fst) (PA ⟨X, Y, Z, T⟩) (numA x).zipIdx 0 4 = PA ⟨X, Y, x, T⟩ := by kernel_rfl
theorem put12 (X Y Z T x : Nat) : Array.foldl (fun cs p => cs.setIfInBounds (12 + p.snd) p.fst) (PA ⟨X, Y, Z, T⟩) (numA x).zipIdx 0 4 = PA ⟨X, Y, Z, x⟩ := by kernel_rfl
theorem wp_build_pt {op : Oper} {a : Act} {w : World} {K : Act → World → Prop} {Q : Exit → Act → World → Prop} (t0 t1 t2 t3 : Tmp) (X Y Z T : Nat) (ho : op.op = .build 47 #[(0, .tmp t0), (1, .tmp t1), (2, .tmp t2), (3, .tmp t3)])
    (f0 : a.tmps.getD t0 undef = .agg (numA X)) (f1 : a.tmps.getD t1 undef = .agg (numA Y)) (f2 : a.tmps.getD t2 undef = .agg (numA Z)) (f3 : a.tmps.getD t3 undef = .agg (numA T)) (h : K (a.put op.dst (.agg (PA ⟨X, Y, Z, T⟩))) w) : op.wp Tryd.prog a w K Q := by
  have hzP := (zero_of_info zeroPA).1
  have g0 := getq f0
  have g1 := getq f1
  have g2 := getq f2
  have g3 := getq f3
  unfold Oper.wp execOp
  rw [ho]
  go_simp
  simp only [numA_size, put0, put4, put8, put12, PA_size]
  go_simp
  exact h
theorem dd_page : subp 0 121665 * finv 121666 % pp = dd := by
  have h1 : subp 0 121665 = 121666 * dd % pp := by decide +kernel
  have h2 := finv_mul (a := 121666) (by decide)
  generalize finv 121666 = x at *
  rw [h1, Nat.mod_mul_mod, Nat.mul_right_comm, Nat.mul_mod, h2, Nat.one_mul, Nat.mod_mod, Nat.mod_eq_of_lt dd_lt]
set_option maxRecDepth 100000 in
set_option maxHeartbeats 4000000 in
theorem d_any (w : World) : Calls Tryd.prog 50 #[] w fun x w' => x = .returned (.agg (numA dd)) ∧ Below w.heap.size w w' := by
  have hz := (zero_of_info zeroLit).1
  obtain ⟨r, Hd⟩ : ∃ r, Hid (dd = r) := ⟨_, rfl⟩
  obtain ⟨s, Hs⟩ : ∃ x, Hid (subp 0 121665 = x) := ⟨_, rfl⟩
  obtain ⟨i, Hi⟩ : ∃ x, Hid (finv 121666 = x) := ⟨_, rfl⟩
  have Hr : Hid (s * i % pp = r) := by show _ = _; rw [← Hd.out, ← Hs.out, ← Hi.out]; exact dd_page
  have hs : s < R256 := by rw [← Hs.out]; exact subp_lt _ _
  have hi : i < R256 := by rw [← Hi.out]; exact finv_R _
  rw [Hd.out]
  go_enter Tryd.func50, Tryd.ntmps50
  go_upto_region 1 with fail
  have hK := (Kp.nil w).alloc (numA 0) 35
  rw [show (#[.int .u64 0, .int .u64 0, .int .u64 0, .int .u64 0] : Array Value) = numA 0 from rfl]
  generalize w.alloc (.cells (numA 0) 35) = W at *
  obtain ⟨bR, HbR⟩ : ∃ b, Hid (w.heap.size = b) := ⟨_, rfl⟩
  have le_bR : Hid (w.heap.size ≤ bR) := by show _ ≤ _; have := HbR.out; omega
  rw [HbR.out] at hK ⊢
  go_wp2_with fail
  rw [show (#[.int .u64 0, .int .u64 0, .int .u64 0, .int .u64 0] : Array Value) = numA 0 from rfl]
  rw [show (#[.int .u64 121665, .int .u64 0, .int .u64 0, .int .u64 0] : Array Value) = numA 121665 from (numA_word 121665 (by decide)).symm]
  refine (fsub_at (by decide) (by decide) Hs.out _).mono ?_
  rintro e V1 ⟨rfl, bw⟩
  have hK := hK.below bw
  clear bw
  go_wp2_with fail
  rw [show (#[.int .u64 121666, .int .u64 0, .int .u64 0, .int .u64 0] : Array Value) = numA 121666 from (numA_word 121666 (by decide)).symm]
  refine (inv_at (by decide) Hi.out _).mono ?_
  rintro e V2 ⟨rfl, bw⟩
  have hK := hK.below bw
  clear bw
  go_wp2_with fail
  refine (mul_at hs hi Hr.out _).mono ?_
  rintro e V3 ⟨rfl, bw⟩
  have hK := hK.below bw
  clear bw
  go_wp2_with (refine wpList_store_own (by rfl) 35 (.tmp 0) (.tmp 6) (by rfl) bR 0 (numA r) (by rfl) (by rfl) (hK.at bR (numA 0) 35 (.head _)) (Nat.le_refl _) (numA_info _) (numA_one _) (by rfl) ?_)
  exact bodyPost_ret (results_own Tryd.results50 _ _ bR (numA r) _ (by rfl) (own_setCells (hK.at bR (numA 0) 35 (.head _)) (numA_sizes _ _)) Tryd.underlying35 rfl (numA_info _)) rfl ⟨rfl, Below.setCells _ _ _ _ le_bR.out hK.2⟩
set_option maxRecDepth 100000 in
set_option maxHeartbeats 4000000 in
theorem zero_any (w : World) : Calls Tryd.prog 78 #[] w fun x w' => x = .returned (.agg (PA zero4)) ∧ Below w.heap.size w w' := by
  have hz := (zero_of_info zeroLit).1
  have hzP := (zero_of_info zeroPA).1
  go_enter Tryd.func78, Tryd.ntmps78
  go_upto_region 1 with fail
  have hK := (Kp.nil w).alloc (PA ⟨0, 0, 0, 0⟩) 47
  generalize w.alloc (.cells (PA ⟨0, 0, 0, 0⟩) 47) = W at *
  obtain ⟨bR, HbR⟩ : ∃ b, Hid (w.heap.size = b) := ⟨_, rfl⟩
  have le_bR : Hid (w.heap.size ≤ bR) := by show _ ≤ _; have := HbR.out; omega
  rw [HbR.out] at hK ⊢
  go_wp2_with (refine wpList_store_own (by rfl) 47 (.tmp 0) (.tmp 5) (by rfl) bR 0 (PA zero4) (by rfl) (by rfl) (hK.at bR (PA ⟨0, 0, 0, 0⟩) 47 (.head _)) (Nat.le_refl _) (PA_info _) (PA_one _) (by rfl) ?_)
  exact bodyPost_ret (results_own Tryd.results78 _ _ bR (PA zero4) _ (by rfl) (own_setCells (hK.at bR (PA ⟨0, 0, 0, 0⟩) 47 (.head _)) (PA_sizes _ _)) Tryd.underlying47 rfl (PA_info _)) rfl ⟨rfl, Below.setCells _ _ _ _ le_bR.out hK.2⟩
end Go.Proofs.YtfkcphbbabaefaaDoor
