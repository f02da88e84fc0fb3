/- The walks of the page's L and of what is left modulo L. -/
import Derived.Test.YtofoihebhdpjlaaDoorS1L
import Derived.Test.YtofoihebhdpjlaaDoorS0M
namespace Go.Proofs.YtofoihebhdpjlaaDoor
open Go.RowKit
theorem add_fit {a b s : Nat} (ha : a < R256) (hb : b < R256) (hs : a + b = s) (h : s < R256) (w : World) :
    Calls Tryd.prog 31 #[.agg (numA a), .agg (numA b)] w fun e w' => e = .returned (.tuple #[.agg (numA s), .int .u64 0]) ∧ Below w.heap.size w w' := by
  refine (add_any a b ha hb w).mono ?_
  rintro e w' ⟨⟨d, c, rfl, hd, hc, he⟩, hB⟩
  have : c = 0 ∨ c = 1 := by omega
  rcases this with rfl | rfl
  · obtain rfl : d = s := by omega
    exact ⟨rfl, hB⟩
  · omega
def valML (u : Nat) (d : Bool) : Nat → Value
  | 0 => .agg (numA u)
  | 1 => .agg (numA LL)
  | 2 => .bool d
  | 3 => .bool (!d)
  | _ => undef
def valMS (u y : Nat) : Nat → Value
  | 0 => .agg (numA u)
  | 1 => .agg (numA LL)
  | 2 => .tuple #[.agg (numA y), .int .u64 0]
  | 3 => .tuple #[.agg (numA y), .int .u64 0]
  | 4 => .agg (numA y)
  | 5 => .int .u64 0
  | _ => undef

set_option maxRecDepth 100000 in
set_option maxHeartbeats 8000000 in
theorem modL_any (t : Nat) (ht : t < R512) (w : World) : Calls Tryd.prog 22 #[.agg (A8 (dig t))] w fun x w' => x = .returned (.agg (numA (t % LL))) ∧ Below w.heap.size w w' := by
  obtain ⟨r, Hr⟩ : ∃ r, Hid (t % LL = r) := ⟨_, rfl⟩
  rw [Hr.out]
  have hz := (zero_of_info zeroNum).1
  go_enter Tryd.func22, Tryd.ntmps22
  go_wp2_with fail
  have hK0 := (((Kp.nil w).alloc (A8 (dig t)) 46).alloc (numA 0) 36).alloc (numA 0) 36
  rw [World.size_alloc, World.size_alloc] at hK0
  rw [← zero_num]
  generalize ((w.alloc (.cells (A8 (dig t)) 46)).alloc (.cells (numA 0) 36)).alloc (.cells (numA 0) 36) = W at *
  obtain ⟨bT, HT⟩ : ∃ bT, Hid (w.heap.size = bT) := ⟨_, rfl⟩
  obtain ⟨bR, HR⟩ : ∃ bR, Hid (bT + 1 = bR) := ⟨_, rfl⟩
  obtain ⟨bO, HO⟩ : ∃ bO, Hid (bR + 1 = bO) := ⟨_, rfl⟩
  have hle : w.heap.size ≤ bR := by have := HT.out; have := HR.out; omega
  have hleO : w.heap.size ≤ bO := by have := HO.out; omega
  have n1 : bT ≠ bO := by have := HR.out; have := HO.out; omega
  have n2 : bR ≠ bO := by have := HO.out; omega
  rw [HT.out, HR.out, HO.out] at hK0 ⊢
  have hnot : ∀ p ∈ [(bR, numA 0, 36), (bT, A8 (dig t), 46)], p.1 ≠ bO := by simp; omega
  go_loopw [4] (fun ii wr => ∃ (j n : Nat), j ≤ 512 ∧ ii = .int .i64 ((j : Int) - 1) ∧ n < LL ∧ Hid (n = t / 2 ^ j % LL) ∧ Kp [(bO, numA n, 36), (bR, numA 0, 36), (bT, A8 (dig t), 46)] w wr) (fun ii _ => (intOf ii + 1).toNat)
  case atStart => exact ⟨512, 0, by omega, rfl, LL_pos, modL_from t 512 rfl ht, hK0⟩
  case round =>
    obtain ⟨j, n, hj, rfl, hnL, Hn, hKr⟩ := hrel
    have hn : n < R256 := Nat.lt_trans hnL LL_lt
    cases j with
    | zero =>
      rw [show (((0 : Nat) : Int) - 1) = -1 from rfl]
      have Hend : Hid (n = r) := by
        show _ = _
        rw [Hn.out, Nat.pow_zero, Nat.div_one, Hr.out]
      go_upto_region 9 with fail
      go_wp2_with (first
        | refine wpList_load_own (by rfl) 36 (.tmp 3) (by rfl) bO (by rfl) (numA n) _ hKr.h1 Tryd.underlying36 (by rfl) (numA_info n) ?_
        | refine wpList_store_own (by rfl) 36 (.tmp 2) (.tmp 38) (by rfl) bR 0 (numA n) (by rfl) (by rfl) hKr.h2 (Nat.le_refl _) (numA_info n) (numA_one n) (by rfl) ?_)
      refine bodyPost_ret (results_own Tryd.results22 _ _ bR (numA n) _ (by rfl) (own_setCells hKr.h2 (numA_sizes n 0)) Tryd.underlying36 rfl (numA_info n)) rfl ⟨by rw [Hend.out], ?_⟩
      exact Below.setCells _ _ _ _ hle hKr.2
    | succ i =>
      rw [show (((i + 1 : Nat) : Int) - 1) = (i : Int) by omega]
      have hi0 : (0 : Int) ≤ (i : Int) := by omega
      have hi1 : (i : Int) < 512 := by omega
      obtain ⟨s, Hs⟩ : ∃ s, Hid (n + n = s) := ⟨_, rfl⟩
      have h2L := twoL
      have hs : s < R256 := by have := Hs.out; omega
      have hs2 : s % 2 = 0 := even_sum Hs.out
      obtain ⟨b, Hb⟩ : ∃ b, Hid (t / 2 ^ i % 2 = b) := ⟨_, rfl⟩
      have hb : b < 2 := by rw [← Hb.out]; exact Nat.mod_lt _ (by decide)
      obtain ⟨u, Hu⟩ : ∃ u, Hid (s + b = u) := ⟨_, rfl⟩
      have hu : u < R256 := by have := Hu.out; have := Hs.out; omega
      have hu2 : Hid (u < 2 * LL) := by show _ < _; have := Hu.out; have := Hs.out; omega
      have Hnb : Hid (n + n + b = u) := by show _ = _; rw [Hs.out]; exact Hu.out
      clear h2L
      go_upto_region 5 with fail
      go_wp2_with (refine wpList_load_own (by rfl) 36 (.tmp 3) (by rfl) bO (by rfl) (numA n) _ hKr.h1 Tryd.underlying36 (by rfl) (numA_info n) ?_)
      refine (add_fit hn hn Hs.out hs wr).mono ?_
      rintro x w1 ⟨rfl, hB1⟩
      have hK2 := hKr.below hB1
      have hK3 := hK2.set (A' := numA s) hnot hleO (numA_sizes s n)
      go_upto_region 6 with (refine wpList_store_own (by rfl) 36 (.tmp 3) (.tmp 13) (by rfl) bO 0 (numA s) (by rfl) (by rfl) hK2.h1 (Nat.le_refl _) (numA_info s) (numA_one s) (by rfl) ?_)
      generalize w1.setCells bO 0 (numA s).toList = W2 at *
      clear hK2 hB1
      have hdv : (i : Int).tdiv 64 = ((i / 64 : Nat) : Int) := by rw [Int.tdiv_eq_ediv_of_nonneg (by omega)]; omega
      have hmd : (i : Int).tmod 64 = ((i % 64 : Nat) : Int) := by rw [Int.tmod_eq_emod_of_nonneg (by omega)]; omega
      have hd8 : i / 64 < 8 := by omega
      have cO := hK3.h1.cell (numA_at s 0 (by decide))
      have fO := hK3.h1.frozen 0
      have cT := hK3.h3.cell (A8_at (dig t) (i / 64) hd8)
      have hbit := bit_u64 t i
      rw [Hb.out] at hbit
      have hor := or_end s b hb hs2
      have hd40 : (0 : Int) ≤ ((i / 64 : Nat) : Int) := by omega
      have hd41 : ((i / 64 : Nat) : Int) < 8 := by omega
      have hm0 : (0 : Int) ≤ ((i % 64 : Nat) : Int) := by omega
      have hm1 : ((i % 64 : Nat) : Int) < 64 := by omega
      have hK4 := Kp.setCell (i := 0) (v := .int .u64 ((dig s 0 + b : Nat) : Int)) hK3 hnot hleO
      rw [num_end hs hs2 hb Hu.out] at hK4
      have HK4 := show Hid _ from hK4
      clear hK4 hs2
      generalize dig s 0 + b = v at *
      generalize dig s 0 = e0 at *
      generalize dig t (i / 64) = e at *
      generalize i / 64 = D at *
      generalize i % 64 = M at *
      go_region
      have hK5 := Kp.below HK4.out ((Below.refl _ _).drew)
      clear hK3 HK4 cO fO cT hbit hor hdv hmd
      obtain ⟨d, Hd⟩ : ∃ d, Hid (decide (u < LL) = d) := ⟨_, rfl⟩
      go_upto_region 7 with fail
      refine wp_region_vals 39 (by kernel_rfl) (by kernel_rfl) (by rfl) (valML u d) (fun _ => Kp [(bO, numA u, 36), (bR, numA 0, 36), (bT, A8 (dig t), 46)] w) (Kp.drew hK5) ?_ ?_
      · intro L ac wc i o hF hLi ho hd K hK
        rcases i with _ | _ | _ | _ | i
        · have ho' := ho
          obtain rfl := Option.some.inj ho
          have f3 : ac.tmps.getD 3 undef = .pointer (some ⟨bO, 0, none⟩) := slotv hF 0 hLi 3 (by kernel_rfl)
          refine step_do ho' (wanted_free rfl) ?_
          exact wp_load_own 36 (.tmp 3) rfl bO f3 (numA u) _ 36 hF.j.h1 Tryd.underlying36 rfl (numA_info _) (hK _ _ (.inr rfl) hF.j)
        · have ho' := ho
          obtain rfl := Option.some.inj ho
          refine step_do ho' (wanted_free rfl) ?_
          unfold Oper.wp
          go_simp
          refine (L_any _).mono ?_
          rintro e w' ⟨rfl, hB⟩
          exact hK _ _ (.inr rfl) (hF.j.below hB)
        · have ho' := ho
          obtain rfl := Option.some.inj ho
          have f28 : ac.tmps.getD 28 undef = .agg (numA u) := valv hF hd 0 rfl rfl (by kernel_rfl)
          have f29 : ac.tmps.getD 29 undef = .agg (numA LL) := valv hF hd 1 rfl rfl (by kernel_rfl)
          refine step_do ho' (wanted_free rfl) ?_
          unfold Oper.wp
          go_simp
          refine (less_any u LL hu LL_lt _).mono ?_
          rintro e w' ⟨rfl, hB⟩
          rw [Hd.out]
          exact hK _ _ (.inr rfl) (hF.j.below hB)
        · have ho' := ho
          obtain rfl := Option.some.inj ho
          have f30 : ac.tmps.getD 30 undef = .bool d := valv hF hd 2 rfl rfl (by kernel_rfl)
          refine step_do ho' (wanted_free rfl) ?_
          unfold Oper.wp
          go_simp
          exact hK _ _ (.inr rfl) hF.j
        · cases ho
      · intro L wq hL hK6
        simp only [putAll, valML, Act.put, List.setIfInBounds_toArray, List.set_cons_succ, List.set_cons_zero]
        clear hL hK5
        cases d with
        | true =>
          have hlt := of_decide_eq_true Hd.out
          have Hst := show Hid _ from modL_low Hn.out Hb.out Hnb.out hlt
          have HL := show Hid _ from hlt
          clear hlt
          go_wp2_with fail
          exact ⟨⟨i, u, by omega, rfl, HL.out, Hst.out, hK6⟩, by simp [intOf]⟩
        | false =>
          have hge := of_decide_eq_false Hd.out
          obtain ⟨y, Hy⟩ : ∃ y, Hid (u = y + LL) := ⟨u - LL, by show _ = _; omega⟩
          have HL : Hid (y < LL) := by show _ < _; have := Hy.out; have := hu2.out; omega
          have Hst := show Hid _ from modL_high Hn.out Hb.out Hnb.out Hy.out HL.out
          clear hge
          go_upto_region 8 with fail
          refine wp_region_vals 39 (by kernel_rfl) (by kernel_rfl) (by rfl) (valMS u y) (fun L => Kp [(bO, if L 6 = true then numA y else numA u, 36), (bR, numA 0, 36), (bT, A8 (dig t), 46)] w) hK6.drew ?_ ?_
          · intro L ac wc i o hF hLi ho hd K hK
            rcases i with _ | _ | _ | _ | _ | _ | _ | i
            · have ho' := ho
              obtain rfl := Option.some.inj ho
              have f3 : ac.tmps.getD 3 undef = .pointer (some ⟨bO, 0, none⟩) := slotv hF 0 hLi 3 (by kernel_rfl)
              refine step_do ho' (wanted_free rfl) ?_
              have hn6 := notyet hF 0 hLi 6 rfl (by kernel_rfl)
              have hj := hF.j
              rw [hn6] at hj
              exact wp_load_own 36 (.tmp 3) rfl bO f3 (numA u) _ 36 hj.h1 Tryd.underlying36 rfl (numA_info _) (hK _ _ (.inr rfl) hF.j)
            · have ho' := ho
              obtain rfl := Option.some.inj ho
              refine step_do ho' (wanted_free rfl) ?_
              unfold Oper.wp
              go_simp
              refine (L_any _).mono ?_
              rintro e w' ⟨rfl, hB⟩
              exact hK _ _ (.inr rfl) (hF.j.below hB)
            · have ho' := ho
              obtain rfl := Option.some.inj ho
              have f33 : ac.tmps.getD 33 undef = .agg (numA u) := valv hF hd 0 rfl rfl (by kernel_rfl)
              have f34 : ac.tmps.getD 34 undef = .agg (numA LL) := valv hF hd 1 rfl rfl (by kernel_rfl)
              refine step_do ho' (wanted_free rfl) ?_
              unfold Oper.wp
              go_simp
              refine (sub_big hu LL_lt Hy.out _).mono ?_
              rintro e w' ⟨rfl, hB⟩
              exact hK _ _ (.inr rfl) (hF.j.below hB)
            · have ho' := ho
              obtain rfl := Option.some.inj ho
              have f35 : ac.tmps.getD 35 undef = .tuple #[.agg (numA y), .int .u64 0] := valv hF hd 2 rfl rfl (by kernel_rfl)
              refine step_do ho' (wanted_free rfl) ?_
              unfold Oper.wp
              go_simp
              exact hK _ _ (.inr rfl) hF.j
            · have ho' := ho
              obtain rfl := Option.some.inj ho
              have f32 : ac.tmps.getD 32 undef = .tuple #[.agg (numA y), .int .u64 0] := valv hF hd 3 rfl rfl (by kernel_rfl)
              refine step_do ho' (wanted_free rfl) ?_
              unfold Oper.wp
              go_simp
              exact hK _ _ (.inr rfl) hF.j
            · have ho' := ho
              obtain rfl := Option.some.inj ho
              have f32 : ac.tmps.getD 32 undef = .tuple #[.agg (numA y), .int .u64 0] := valv hF hd 3 rfl rfl (by kernel_rfl)
              refine step_do ho' (wanted_free rfl) ?_
              unfold Oper.wp
              go_simp
              exact hK _ _ (.inr rfl) hF.j
            · have ho' := ho
              obtain rfl := Option.some.inj ho
              have f3 : ac.tmps.getD 3 undef = .pointer (some ⟨bO, 0, none⟩) := slotv hF 6 hLi 3 (by kernel_rfl)
              have f36 : ac.tmps.getD 36 undef = .agg (numA y) := valv hF hd 4 rfl rfl (by kernel_rfl)
              refine step_do ho' (wanted_free rfl) ?_
              have hj := hF.j
              rw [hLi] at hj
              refine wp_store_own 36 (.tmp 3) (.tmp 36) rfl bO (numA y) f3 f36 hj.h1 (numA_sizes _ _) (numA_info _) (numA_one _) rfl ?_
              exact hK undef _ (.inl rfl) (Kp.set hj hnot hleO (numA_sizes _ _))
            · cases ho
          · intro L wz hL hK7
            rw [hL 6 (by decide)] at hK7
            simp only [putAll, valMS, Act.put, List.setIfInBounds_toArray, List.set_cons_succ, List.set_cons_zero]
            clear hL hK6
            go_wp2_with fail
            exact ⟨⟨i, y, by omega, rfl, HL.out, Hst.out, hK7⟩, by simp [intOf]⟩
end Go.Proofs.YtofoihebhdpjlaaDoor
