/- Of the texts Z3: what the card of this claim reaches. -/
import Derived.Test.YtgibllaifnnfkaaGreatDoorXE18
namespace Go.Proofs.YtgibllaifnnfkaaGreatDoor
open Go.RowKit
def TO (w : World) : Prop := 6 < w.heap.size ∧ ∀ k, k < 4 → w.cell? ⟨6, k, none⟩ = some (.int .u64 (dig LL k : Int))
theorem TO.keep {w w' : World} (h : TO w) (hB : Below w.heap.size w w') : TO w' :=
  ⟨Nat.lt_of_lt_of_le h.1 hB.size, fun k hk => by rw [(bcell hB).1 _ _ h.1]; exact h.2 k hk⟩
theorem TO.kp {w w' : World} {l : List (Nat × Array Value × TypeId)} (h : TO w) (hK : Kp l w w') : TO w' := h.keep hK.2
def nf (d r : Nat) : Nat → Nat
  | 0 => d
  | 1 => dig r 0
  | 2 => dig r 1
  | _ => dig r 2
theorem nf_lt {d : Nat} (hd : d < 18446744073709551616) (r : Nat) (j : Nat) : nf d r j < 18446744073709551616 := by
  rcases j with _ | _ | _ | j
  · exact hd
  all_goals exact dig_lt _ _
theorem nf_num {d r : Nat} (hr : r < R256) : vl (nf d r) 4 + R256 * dig r 3 = d + 18446744073709551616 * r := by
  have h1 := w4_vl (nf d r)
  have h2 := w4_num hr
  rw [h1]
  have e0 : nf d r 0 = d := rfl
  have e1 : nf d r 1 = dig r 0 := rfl
  have e2 : nf d r 2 = dig r 1 := rfl
  have e3 : nf d r 3 = dig r 2 := rfl
  rw [e0, e1, e2, e3]
  conv => rhs; rw [← h2]
  unfold w4 R256
  omega
theorem next_step {f g O : Nat → Nat} {k q u c l s u' c' : Nat} (e : vl f k + 18446744073709551616 ^ k * (u + c) = vl g k + q * vl O k) (es : O k * q + 0 + c = l + 18446744073709551616 * c') (eu : f k + 18446744073709551616 * u' = s + l + u) :
    vl f (k + 1) + 18446744073709551616 ^ (k + 1) * (u' + c') = vl (upd g k s) (k + 1) + q * vl O (k + 1) := by
  rw [vl, vl, vl, vl_upd g k s k (Nat.le_refl _), upd_same, Nat.pow_succ]
  have e1 : f k + 18446744073709551616 * u' + 18446744073709551616 * c' = s + u + O k * q + c := by omega
  have e2 := congrArg (18446744073709551616 ^ k * ·) e1
  simp only [Nat.mul_add] at e2 e ⊢
  generalize 18446744073709551616 ^ k = B at *
  have a1 : B * 18446744073709551616 * u' = B * (18446744073709551616 * u') := Nat.mul_assoc ..
  have a2 : B * 18446744073709551616 * c' = B * (18446744073709551616 * c') := Nat.mul_assoc ..
  have a3 : q * (O k * B) = B * (O k * q) := by rw [Nat.mul_comm, Nat.mul_assoc, Nat.mul_left_comm]
  rw [a1, a2, a3, Nat.mul_comm (f k) B, Nat.mul_comm s B]
  omega
theorem top_bit {f : Nat → Nat} (hf : ∀ j, j < 4 → f j < 18446744073709551616) : vl f 4 < 57896044618658097711785492504343953926634992332820282019728792003956564819968 ↔ f 3 < 9223372036854775808 := by
  have h0 := hf 0 (by decide)
  have h1 := hf 1 (by decide)
  have h2 := hf 2 (by decide)
  rw [w4_vl]
  unfold w4
  omega
theorem next_ends {d r q u c : Nat} {h : Nat → Nat} (hd : d < 18446744073709551616) (hr : r < LL) (hq : dig r 3 < 1152921504606846976 ∧ q = 16 * dig r 3 + dig r 2 / 1152921504606846976 ∨ dig r 3 = 1152921504606846976 ∧ q = 18446744073709551615)
    (hh : ∀ j, j < 4 → h j < 18446744073709551616) (e : vl (nf d r) 4 + 18446744073709551616 ^ 4 * (u + c) = vl h 4 + q * vl (dig LL) 4) :
    (h 3 < 9223372036854775808 ∧ A4 h = numA ((d + 18446744073709551616 * r) % LL)) ∨ (9223372036854775808 ≤ h 3 ∧ ∃ y, vl h 4 + LL = y + R256 ∧ y < LL ∧ y = (d + 18446744073709551616 * r) % LL) := by
  have hrR : r < R256 := Nat.lt_trans hr LL_lt
  have hf := nf_num (d := d) hrR
  rw [pow4, vl_num LL LL_lt] at e
  have hn := vl4_lt h hh
  have hw := w4_num hrR
  have htop := top_bit hh
  have hA := A4_num h hh
  have key := next_end (n := vl h 4) (t := u + c) hd (dig_lt r 0) (dig_lt r 1) (dig_lt r 2) (by rw [hw]; exact hr) hq hn (by rw [hw]; omega)
  rw [hw] at key
  rcases key with ⟨k1, k2, k3⟩ | ⟨k1, y, q', k2, k3, k4⟩
  · exact .inl ⟨htop.1 k1, by rw [hA, mod_is k2 k3]⟩
  · exact .inr ⟨by omega, y, k2, k3, mod_is k3 k4⟩
theorem next_more {d r y c : Nat} {g h : Nat → Nat} (hh : ∀ j, j < 4 → h j < 18446744073709551616) (hy : vl g 4 + LL = y + R256) (hyL : y < LL ∧ y = (d + 18446744073709551616 * r) % LL) (hc : c ≤ 1) (e : vl g 4 + vl (dig LL) 4 = vl h 4 + 18446744073709551616 ^ 4 * c) : A4 h = numA ((d + 18446744073709551616 * r) % LL) := by
  rw [pow4, vl_num LL LL_lt, hy] at e
  have hn := vl4_lt h hh
  have hyR := Nat.lt_trans hyL.1 LL_lt
  have hc' : c = 0 ∨ c = 1 := by omega
  have : vl h 4 = y := by
    rcases hc' with rfl | rfl
    · omega
    · omega
  rw [A4_num h hh, this, hyL.2]
theorem shl4 {x : Nat} (h : x < 1152921504606846976) : IntKind.u64.wrap ((x : Int) * 16) = ((16 * x : Nat) : Int) := by
  rw [show (x : Int) * 16 = ((16 * x : Nat) : Int) by omega]; exact wrap_small _ (by omega)
theorem shr60 (x : Nat) : (x : Int) / 1152921504606846976 = ((x / 1152921504606846976 : Nat) : Int) := by omega
theorem or_count {a b : Nat} (ha : a < 1152921504606846976) (hb : b < 18446744073709551616) : bits .or .u64 ((16 * a : Nat) : Int) ((b / 1152921504606846976 : Nat) : Int) = ((16 * a + b / 1152921504606846976 : Nat) : Int) := by
  rw [u64_or_nat (16 * a) (b / 1152921504606846976) (by omega) (by omega)]
  have := Nat.two_pow_add_eq_or_of_lt (i := 4) (b := b / 1152921504606846976) (by omega) a
  rw [show (2 : Nat) ^ 4 = 16 from rfl] at this
  rw [this]
def valNext (bN k c c' s : Nat) (h : Nat → Nat) : Nat → Value
  | 0 => .int .i64 (k : Int)
  | 1 => .int .i64 (k : Int)
  | 2 => .pointer (some ⟨bN, k, none⟩)
  | 3 => .int .u64 (h k : Int)
  | 4 => .int .i64 (k : Int)
  | 5 => .pointer (some ⟨6, k, none⟩)
  | 6 => .int .u64 (dig LL k : Int)
  | 7 => .int .u64 (c : Int)
  | 8 => .tuple #[.int .u64 (s : Int), .int .u64 (c' : Int)]
  | 9 => .tuple #[.int .u64 (s : Int), .int .u64 (c' : Int)]
  | 10 => .int .u64 (s : Int)
  | 11 => .int .u64 (c' : Int)
  | 12 => .pointer (some ⟨bN, k, none⟩)
  | 14 => .int .u64 (c' : Int)
  | _ => undef
set_option maxRecDepth 100000 in
set_option maxHeartbeats 16000000 in
theorem next_any (r d : Nat) (hr : r < LL) (hd : d < 18446744073709551616) (w : World) (hT : TO w) :
    Calls Tryz.prog 93 #[.agg (numA r), .int .u64 (d : Int)] w fun x w' => x = .returned (.agg (numA ((d + 18446744073709551616 * r) % LL))) ∧ Below w.heap.size w w' := by
  have hz := (zero_of_info zeroSN).1
  have hr3 : dig r 3 ≤ 1152921504606846976 := by
    have hrR : r < R256 := Nat.lt_trans hr LL_lt
    exact count_ok (dig_lt r 0) (dig_lt r 1) (dig_lt r 2) (by rw [w4_num hrR]; exact hr)
  go_enter Tryz.func93, Tryz.ntmps93
  go_upto_region 1 with fail
  have hK := ((Kp.nil w).alloc (numA r) 83).alloc (numA 0) 83
  have hszW : w.heap.size + 2 ≤ ((w.alloc (.cells (numA r) 83)).alloc (.cells (numA 0) 83)).heap.size := by rw [World.size_alloc, World.size_alloc]; exact Nat.le_refl _
  rw [World.size_alloc] at hK
  rw [← zero_num]
  generalize (w.alloc (.cells (numA r) 83)).alloc (.cells (numA 0) 83) = W at *
  obtain ⟨bA, HA⟩ : ∃ bA, Hid (w.heap.size = bA) := ⟨_, rfl⟩
  obtain ⟨bR, HR⟩ : ∃ bR, Hid (bA + 1 = bR) := ⟨_, rfl⟩
  have hleR : w.heap.size ≤ bR := by have := HA.out; have := HR.out; omega
  have hbA : bA < W.heap.size := by have := HA.out; omega
  have hbR : bR < W.heap.size := by have := HA.out; have := HR.out; omega
  have hszW : w.heap.size ≤ W.heap.size := by omega
  rw [HA.out, HR.out] at hK ⊢
  have c0 := hK.h2.cell (numA_at r 0 (by decide))
  have c1 := hK.h2.cell (numA_at r 1 (by decide))
  have c2 := hK.h2.cell (numA_at r 2 (by decide))
  have c3 := hK.h2.cell (numA_at r 3 (by decide))
  have cG : W.cell? ⟨6, 3, none⟩ = some (.int .u64 1152921504606846976) := (hT.kp hK).2 3 (by decide)
  have h60 := shr60 (dig r 2)
  by_cases h3 : dig r 3 < 1152921504606846976
  · obtain ⟨q, Hq⟩ : ∃ q, Hid (16 * dig r 3 + dig r 2 / 1152921504606846976 = q) := ⟨_, rfl⟩
    have hq' := Or.inl (b := dig r 3 = 1152921504606846976 ∧ q = 18446744073709551615) (And.intro h3 Hq.out.symm)
    have hq : q < 18446744073709551616 := by have := dig_lt r 2; have := Hq.out; omega
    have hs := shl4 h3
    have hor := or_count h3 (dig_lt r 2)
    obtain ⟨z, Hz⟩ : ∃ z, Hid (dig r 2 / 1152921504606846976 = z) := ⟨_, rfl⟩
    rw [Hq.out, Hz.out] at hor
    rw [Hz.out] at h60
    have hne : ((dig r 3 : Int) == 1152921504606846976) = false := by rw [beq_eq_false_iff_ne]; omega
    generalize hA4 : 16 * dig r 3 = x at hs hor
    clear hA4
    go_upto_region 4 with fail
    go_upto_region 5 with (refine wpList_store_new (by rfl) 83 (.tmp 6) (.tmp 32) (by rfl) _ (A4 (nf d r)) (by rfl) (by rfl) infoSN rfl (A4_one _) (by rfl) ?_)
    have hK := hK.alloc (A4 (nf d r)) 83
    generalize hW : W.alloc (.cells (A4 (nf d r)) 83) = W1 at *
    obtain ⟨bN, HN⟩ : ∃ bN, Hid (W.heap.size = bN) := ⟨_, rfl⟩
    have hleN : w.heap.size ≤ bN := by rw [← HN.out]; exact hszW
    have nR : bR ≠ bN := by rw [← HN.out]; omega
    have nA : bA ≠ bN := by rw [← HN.out]; omega
    rw [HN.out] at hK ⊢
    clear hW
    go_wp2_with fail
    go_loopw [33, 7, 8] (fun ii cc uu wr => ∃ (k c u : Nat) (h : Nat → Nat), k ≤ 4 ∧ ii = .int .i64 (k : Int) ∧ cc = .int .u64 (c : Int) ∧ uu = .int .u64 (u : Int) ∧ c < 18446744073709551616 ∧ u ≤ 1 ∧ (∀ j, j < 4 → h j < 18446744073709551616) ∧ (∀ j, k ≤ j → h j = nf d r j) ∧ Hid (vl (nf d r) k + 18446744073709551616 ^ k * (u + c) = vl h k + q * vl (dig LL) k) ∧ Kp [(bN, A4 h, 83), (bR, numA 0, 83), (bA, numA r, 83)] w wr) (fun ii _ _ _ => 4 - (intOf ii).toNat)
    case atStart => exact ⟨0, 0, 0, nf d r, by omega, rfl, rfl, rfl, by decide, by omega, fun j hj => nf_lt hd r j, fun _ _ => rfl, by show _ = _; simp [vl], hK⟩
    case round =>
      obtain ⟨k, c, u, h, hk, rfl, rfl, rfl, hc, hu, hh, hhk, He, hKr⟩ := hrel
      have hk0 : (0 : Int) ≤ (k : Int) := by omega
      by_cases hlt : k < 4
      · have hki : (k : Int) < 4 := by omega
        have cG := (hT.kp hKr).2 k hlt
        go_wp2_with fail
        refine (step_anyZ (dig LL k) q 0 c (dig_lt _ _) hq (by decide) hc _).mono ?_
        rintro x wr' ⟨⟨l, c', rfl, hl, hc', es⟩, rfl⟩
        obtain ⟨s, u', rs, hs, hu', eu⟩ := sub64_any (h k) l u (hh k hlt) hl hu
        have Hst : Hid (vl (nf d r) (k + 1) + 18446744073709551616 ^ (k + 1) * (u' + c') = vl (upd h k s) (k + 1) + q * vl (dig LL) (k + 1)) := next_step He.out es (by rw [← hhk k (Nat.le_refl _)]; exact eu)
        clear es eu cG
        have Hhk := show Hid _ from hhk
        have cN := hKr.h1.cell (A4_at h k hlt)
        obtain ⟨hx, Hx⟩ : ∃ x, Hid (h k = x) := ⟨_, rfl⟩
        rw [Hx.out] at cN rs
        clear hhk
        have fN := hKr.h1.frozen k
        have hKs := Kp.setCell (i := k) (v := .int .u64 (s : Int)) hKr (by simp; omega) hleN
        rw [A4_set h k s hlt] at hKs
        go_wp2_with fail
        refine ⟨⟨k + 1, c', u', upd h k s, by omega, by go_num, rfl, rfl, hc', hu', fun j hj => ?_, fun j hj => ?_, Hst.out, hKs⟩, by simp [intOf]; omega⟩
        · by_cases e : j = k
          · rw [e, upd_same]; exact hs
          · rw [upd_other _ _ _ _ e]; exact hh j hj
        · rw [upd_other _ _ _ _ (by omega)]; exact Hhk.out j (by omega)
      · have hki : ¬ (k : Int) < 4 := by omega
        have Hend : Hid _ := next_ends hd hr hq' hh (show Hid _ from by have := He.out; rwa [show k = 4 by omega] at this).out
        clear He hhk
        have cN := hKr.h1.cell (A4_at h 3 (by decide))
        obtain ⟨hN3, HN3⟩ : ∃ x, Hid (h 3 = x) := ⟨_, rfl⟩
        rw [HN3.out] at cN
        rcases Hend.out with ⟨hlow, hnum⟩ | ⟨hhigh, y, hny, hyL⟩
        · have h63 : (hN3 : Int) / 9223372036854775808 = 0 := by rw [← HN3.out]; omega
          have Hnum := show Hid _ from hnum
          clear hlow hnum Hend
          go_upto_region 13 with fail
          go_wp2_with (first
            | refine wpList_load_own (by rfl) 83 (.tmp 6) (by rfl) bN (by rfl) (A4 h) _ hKr.h1 Tryz.underlying83 (by rfl) infoSN ?_
            | refine wpList_store_own (by rfl) 83 (.tmp 4) (.tmp 61) (by rfl) bR 0 (A4 h) (by rfl) (by rfl) hKr.h2 (Nat.le_refl _) infoSN (A4_one h) (by rfl) ?_)
          refine bodyPost_ret (results_own Tryz.results93 _ _ bR (A4 h) _ (by rfl) (own_setCells hKr.h2 rfl) Tryz.underlying83 rfl infoSN) rfl ⟨by rw [Hnum.out], ?_⟩
          exact Below.setCells _ _ _ _ hleR hKr.2
        · have h63 : ((hN3 : Int) / 9223372036854775808 == 0) = false := by rw [← HN3.out, beq_eq_false_iff_ne]; omega
          have Hny := show Hid _ from hny
          have HyL := show Hid _ from hyL
          obtain ⟨g, HG⟩ : ∃ g, Hid (h = g) := ⟨_, rfl⟩
          have hK2 := hKr
          rw [HG.out] at hK2 hh Hny
          clear hhigh hny hyL Hend hKr
          go_upto_region 15 with fail
          clear cN h63
          go_wp2_with fail
          go_loopw [62, 11] (fun ii cc wr => ∃ (k c : Nat) (h : Nat → Nat), k ≤ 4 ∧ ii = .int .i64 (k : Int) ∧ cc = .int .u64 (c : Int) ∧ c ≤ 1 ∧ (∀ j, j < 4 → h j < 18446744073709551616) ∧ (∀ j, k ≤ j → h j = g j) ∧ Hid (vl g k + vl (dig LL) k = vl h k + 18446744073709551616 ^ k * c) ∧ Kp [(bN, A4 h, 83), (bR, numA 0, 83), (bA, numA r, 83)] w wr) (fun ii _ _ => 4 - (intOf ii).toNat)
          case atStart => exact ⟨0, 0, g, by omega, rfl, rfl, by omega, hh, fun _ _ => rfl, by show _ = _; simp [vl], hK2⟩
          case round =>
            obtain ⟨k, c, h, hk, rfl, rfl, hc, hh, hhk, He, hKr⟩ := hrel
            have hk0 : (0 : Int) ≤ (k : Int) := by omega
            by_cases hlt : k < 4
            · have hki : (k : Int) < 4 := by omega
              obtain ⟨s, c', rs, hs, hc', es⟩ := add64_any (h k) (dig LL k) c (hh k hlt) (dig_lt _ _) hc
              have Hst : Hid (vl g (k + 1) + vl (dig LL) (k + 1) = vl (upd h k s) (k + 1) + 18446744073709551616 ^ (k + 1) * c') := vl_add_step He.out (by rw [← hhk k (Nat.le_refl _)]; exact es)
              have Hhk := show Hid _ from hhk
              clear es hhk
              go_upto_region 19 with fail
              refine wp_region_vals 80 (by kernel_rfl) (by kernel_rfl) (by rfl) (valNext bN k c c' s h) (fun L => Kp [(bN, if L 13 = true then A4 (upd h k s) else A4 h, 83), (bR, numA 0, 83), (bA, numA r, 83)] w) hKr.drew ?_ ?_
              · intro L ac wc i o hF hLi ho hd K hK
                rcases i with _ | _ | _ | _ | _ | _ | _ | _ | _ | _ | _ | _ | _ | _ | _ | i
                · have ho' := ho
                  obtain rfl := Option.some.inj ho
                  have f12 : ac.tmps.getD 12 undef = .int .i64 (k : Int) := slotv hF 0 hLi 12 (by kernel_rfl)
                  refine step_do ho' (wanted_free rfl) ?_
                  unfold Oper.wp
                  go_simp
                  exact hK _ _ (.inr rfl) hF.j
                · have ho' := ho
                  obtain rfl := Option.some.inj ho
                  have f12 : ac.tmps.getD 12 undef = .int .i64 (k : Int) := slotv hF 1 hLi 12 (by kernel_rfl)
                  refine step_do ho' (wanted_free rfl) ?_
                  unfold Oper.wp
                  go_simp
                  exact hK _ _ (.inr rfl) hF.j
                · have ho' := ho
                  obtain rfl := Option.some.inj ho
                  have f6 : ac.tmps.getD 6 undef = .pointer (some ⟨bN, 0, none⟩) := slotv hF 2 hLi 6 (by kernel_rfl)
                  have f67 : ac.tmps.getD 67 undef = .int .i64 (k : Int) := valv hF hd 1 rfl rfl (by kernel_rfl)
                  refine step_do ho' (wanted_free rfl) ?_
                  unfold Oper.wp
                  go_simp
                  exact hK _ _ (.inr rfl) hF.j
                · have ho' := ho
                  obtain rfl := Option.some.inj ho
                  have f68 : ac.tmps.getD 68 undef = .pointer (some ⟨bN, k, none⟩) := valv hF hd 2 rfl rfl (by kernel_rfl)
                  refine step_do ho' (wanted_free rfl) ?_
                  have hn13 := notyet hF 3 hLi 13 rfl (by kernel_rfl)
                  have hj := hF.j
                  rw [hn13] at hj
                  have cN := hj.h1.cell (A4_at h k hlt)
                  unfold Oper.wp
                  go_simp
                  exact hK _ _ (.inr rfl) hF.j
                · have ho' := ho
                  obtain rfl := Option.some.inj ho
                  have f12 : ac.tmps.getD 12 undef = .int .i64 (k : Int) := slotv hF 4 hLi 12 (by kernel_rfl)
                  refine step_do ho' (wanted_free rfl) ?_
                  unfold Oper.wp
                  go_simp
                  exact hK _ _ (.inr rfl) hF.j
                · have ho' := ho
                  obtain rfl := Option.some.inj ho
                  have f70 : ac.tmps.getD 70 undef = .int .i64 (k : Int) := valv hF hd 4 rfl rfl (by kernel_rfl)
                  refine step_do ho' (wanted_free rfl) ?_
                  unfold Oper.wp
                  go_simp
                  exact hK _ _ (.inr rfl) hF.j
                · have ho' := ho
                  obtain rfl := Option.some.inj ho
                  have f71 : ac.tmps.getD 71 undef = .pointer (some ⟨6, k, none⟩) := valv hF hd 5 rfl rfl (by kernel_rfl)
                  refine step_do ho' (wanted_free rfl) ?_
                  have cG := (hT.kp hF.j).2 k hlt
                  unfold Oper.wp
                  go_simp
                  exact hK _ _ (.inr rfl) hF.j
                · have ho' := ho
                  obtain rfl := Option.some.inj ho
                  have f11 : ac.tmps.getD 11 undef = .int .u64 (c : Int) := slotv hF 7 hLi 11 (by kernel_rfl)
                  refine step_do ho' (wanted_free rfl) ?_
                  unfold Oper.wp
                  go_simp
                  exact hK _ _ (.inr rfl) hF.j
                · have ho' := ho
                  obtain rfl := Option.some.inj ho
                  have f69 : ac.tmps.getD 69 undef = .int .u64 (h k : Int) := valv hF hd 3 rfl rfl (by kernel_rfl)
                  have f72 : ac.tmps.getD 72 undef = .int .u64 (dig LL k : Int) := valv hF hd 6 rfl rfl (by kernel_rfl)
                  have f73 : ac.tmps.getD 73 undef = .int .u64 (c : Int) := valv hF hd 7 rfl rfl (by kernel_rfl)
                  refine step_do ho' (wanted_free rfl) ?_
                  unfold Oper.wp
                  go_simp
                  exact hK _ _ (.inr rfl) hF.j
                · have ho' := ho
                  obtain rfl := Option.some.inj ho
                  have f74 : ac.tmps.getD 74 undef = .tuple #[.int .u64 (s : Int), .int .u64 (c' : Int)] := valv hF hd 8 rfl rfl (by kernel_rfl)
                  refine step_do ho' (wanted_free rfl) ?_
                  unfold Oper.wp
                  go_simp
                  exact hK _ _ (.inr rfl) hF.j
                · have ho' := ho
                  obtain rfl := Option.some.inj ho
                  have f65 : ac.tmps.getD 65 undef = .tuple #[.int .u64 (s : Int), .int .u64 (c' : Int)] := valv hF hd 9 rfl rfl (by kernel_rfl)
                  refine step_do ho' (wanted_free rfl) ?_
                  unfold Oper.wp
                  go_simp
                  exact hK _ _ (.inr rfl) hF.j
                · have ho' := ho
                  obtain rfl := Option.some.inj ho
                  have f65 : ac.tmps.getD 65 undef = .tuple #[.int .u64 (s : Int), .int .u64 (c' : Int)] := valv hF hd 9 rfl rfl (by kernel_rfl)
                  refine step_do ho' (wanted_free rfl) ?_
                  unfold Oper.wp
                  go_simp
                  exact hK _ _ (.inr rfl) hF.j
                · have ho' := ho
                  obtain rfl := Option.some.inj ho
                  have f6 : ac.tmps.getD 6 undef = .pointer (some ⟨bN, 0, none⟩) := slotv hF 12 hLi 6 (by kernel_rfl)
                  have f66 : ac.tmps.getD 66 undef = .int .i64 (k : Int) := valv hF hd 0 rfl rfl (by kernel_rfl)
                  refine step_do ho' (wanted_free rfl) ?_
                  unfold Oper.wp
                  go_simp
                  exact hK _ _ (.inr rfl) hF.j
                · have ho' := ho
                  obtain rfl := Option.some.inj ho
                  have f77 : ac.tmps.getD 77 undef = .pointer (some ⟨bN, k, none⟩) := valv hF hd 12 rfl rfl (by kernel_rfl)
                  have f75 : ac.tmps.getD 75 undef = .int .u64 (s : Int) := valv hF hd 10 rfl rfl (by kernel_rfl)
                  refine step_do ho' (wanted_free rfl) ?_
                  have hj := hF.j
                  rw [hLi] at hj
                  have cN := hj.h1.cell (A4_at h k hlt)
                  have fN := hj.h1.frozen k
                  unfold Oper.wp
                  go_simp
                  refine hK undef _ (.inl rfl) ?_
                  have hs := Kp.setCell (i := k) (v := .int .u64 (s : Int)) hj (by simp; omega) hleN
                  rw [show (if false = true then A4 (upd h k s) else A4 h) = A4 h from rfl, A4_set h k s hlt] at hs
                  exact hs
                · have ho' := ho
                  obtain rfl := Option.some.inj ho
                  have f76 : ac.tmps.getD 76 undef = .int .u64 (c' : Int) := valv hF hd 11 rfl rfl (by kernel_rfl)
                  refine step_do ho' (wanted_free rfl) ?_
                  unfold Oper.wp
                  go_simp
                  exact hK _ _ (.inr rfl) hF.j
                · cases ho
              · intro L wq hL hKq
                rw [hL 13 (by decide)] at hKq
                simp only [putAll, valNext, Act.put, List.setIfInBounds_toArray, List.set_cons_succ, List.set_cons_zero]
                go_wp2_with fail
                refine ⟨⟨k + 1, c', upd h k s, by omega, by go_num, rfl, hc', fun j hj => ?_, fun j hj => ?_, Hst.out, hKq⟩, by simp [intOf]; omega⟩
                · by_cases e : j = k
                  · rw [e, upd_same]; exact hs
                  · rw [upd_other _ _ _ _ e]; exact hh j hj
                · rw [upd_other _ _ _ _ (by omega)]; exact Hhk.out j (by omega)
            · have hki : ¬ (k : Int) < 4 := by omega
              have Hnum : Hid (A4 h = numA ((d + 18446744073709551616 * r) % LL)) := by
                have e := He.out
                rw [show k = 4 by omega] at e
                exact next_more hh Hny.out HyL.out hc e
              clear He
              go_upto_region 21 with fail
              go_wp2_with (first
                | refine wpList_load_own (by rfl) 83 (.tmp 6) (by rfl) bN (by rfl) (A4 h) _ hKr.h1 Tryz.underlying83 (by rfl) infoSN ?_
                | refine wpList_store_own (by rfl) 83 (.tmp 4) (.tmp 79) (by rfl) bR 0 (A4 h) (by rfl) (by rfl) hKr.h2 (Nat.le_refl _) infoSN (A4_one h) (by rfl) ?_)
              refine bodyPost_ret (results_own Tryz.results93 _ _ bR (A4 h) _ (by rfl) (own_setCells hKr.h2 rfl) Tryz.underlying83 rfl infoSN) rfl ⟨by rw [Hnum.out], ?_⟩
              exact Below.setCells _ _ _ _ hleR hKr.2
  · obtain ⟨q, Hq⟩ : ∃ q : Nat, Hid (18446744073709551615 = q) := ⟨18446744073709551615, by show (18446744073709551615 : Nat) = _; rfl⟩
    have h3e : dig r 3 = 1152921504606846976 := by omega
    have hq' := Or.inr (a := dig r 3 < 1152921504606846976 ∧ q = 16 * dig r 3 + dig r 2 / 1152921504606846976) (And.intro h3e Hq.out.symm)
    have hq : q < 18446744073709551616 := by have := Hq.out; omega
    obtain ⟨z, Hz⟩ : ∃ z, Hid (dig r 2 / 1152921504606846976 = z) := ⟨_, rfl⟩
    rw [Hz.out] at h60
    rw [h3e] at c3
    have c3 : W.cell? ⟨bA, 3, none⟩ = some (.int .u64 1152921504606846976) := c3
    go_upto_region 4 with fail
    rw [show (18446744073709551615 : Int) = ((18446744073709551615 : Nat) : Int) from rfl, Hq.out]
    go_upto_region 5 with (refine wpList_store_new (by rfl) 83 (.tmp 6) (.tmp 32) (by rfl) _ (A4 (nf d r)) (by rfl) (by rfl) infoSN rfl (A4_one _) (by rfl) ?_)
    have hK := hK.alloc (A4 (nf d r)) 83
    generalize hW : W.alloc (.cells (A4 (nf d r)) 83) = W1 at *
    obtain ⟨bN, HN⟩ : ∃ bN, Hid (W.heap.size = bN) := ⟨_, rfl⟩
    have hleN : w.heap.size ≤ bN := by rw [← HN.out]; exact hszW
    have nR : bR ≠ bN := by rw [← HN.out]; omega
    have nA : bA ≠ bN := by rw [← HN.out]; omega
    rw [HN.out] at hK ⊢
    clear hW
    go_wp2_with fail
    go_loopw [33, 7, 8] (fun ii cc uu wr => ∃ (k c u : Nat) (h : Nat → Nat), k ≤ 4 ∧ ii = .int .i64 (k : Int) ∧ cc = .int .u64 (c : Int) ∧ uu = .int .u64 (u : Int) ∧ c < 18446744073709551616 ∧ u ≤ 1 ∧ (∀ j, j < 4 → h j < 18446744073709551616) ∧ (∀ j, k ≤ j → h j = nf d r j) ∧ Hid (vl (nf d r) k + 18446744073709551616 ^ k * (u + c) = vl h k + q * vl (dig LL) k) ∧ Kp [(bN, A4 h, 83), (bR, numA 0, 83), (bA, numA r, 83)] w wr) (fun ii _ _ _ => 4 - (intOf ii).toNat)
    case atStart => exact ⟨0, 0, 0, nf d r, by omega, rfl, rfl, rfl, by decide, by omega, fun j hj => nf_lt hd r j, fun _ _ => rfl, by show _ = _; simp [vl], hK⟩
    case round =>
      obtain ⟨k, c, u, h, hk, rfl, rfl, rfl, hc, hu, hh, hhk, He, hKr⟩ := hrel
      have hk0 : (0 : Int) ≤ (k : Int) := by omega
      by_cases hlt : k < 4
      · have hki : (k : Int) < 4 := by omega
        have cG := (hT.kp hKr).2 k hlt
        go_wp2_with fail
        refine (step_anyZ (dig LL k) q 0 c (dig_lt _ _) hq (by decide) hc _).mono ?_
        rintro x wr' ⟨⟨l, c', rfl, hl, hc', es⟩, rfl⟩
        obtain ⟨s, u', rs, hs, hu', eu⟩ := sub64_any (h k) l u (hh k hlt) hl hu
        have Hst : Hid (vl (nf d r) (k + 1) + 18446744073709551616 ^ (k + 1) * (u' + c') = vl (upd h k s) (k + 1) + q * vl (dig LL) (k + 1)) := next_step He.out es (by rw [← hhk k (Nat.le_refl _)]; exact eu)
        clear es eu cG
        have Hhk := show Hid _ from hhk
        have cN := hKr.h1.cell (A4_at h k hlt)
        obtain ⟨hx, Hx⟩ : ∃ x, Hid (h k = x) := ⟨_, rfl⟩
        rw [Hx.out] at cN rs
        clear hhk
        have fN := hKr.h1.frozen k
        have hKs := Kp.setCell (i := k) (v := .int .u64 (s : Int)) hKr (by simp; omega) hleN
        rw [A4_set h k s hlt] at hKs
        go_wp2_with fail
        refine ⟨⟨k + 1, c', u', upd h k s, by omega, by go_num, rfl, rfl, hc', hu', fun j hj => ?_, fun j hj => ?_, Hst.out, hKs⟩, by simp [intOf]; omega⟩
        · by_cases e : j = k
          · rw [e, upd_same]; exact hs
          · rw [upd_other _ _ _ _ e]; exact hh j hj
        · rw [upd_other _ _ _ _ (by omega)]; exact Hhk.out j (by omega)
      · have hki : ¬ (k : Int) < 4 := by omega
        have Hend : Hid _ := next_ends hd hr hq' hh (show Hid _ from by have := He.out; rwa [show k = 4 by omega] at this).out
        clear He hhk
        have cN := hKr.h1.cell (A4_at h 3 (by decide))
        obtain ⟨hN3, HN3⟩ : ∃ x, Hid (h 3 = x) := ⟨_, rfl⟩
        rw [HN3.out] at cN
        rcases Hend.out with ⟨hlow, hnum⟩ | ⟨hhigh, y, hny, hyL⟩
        · have h63 : (hN3 : Int) / 9223372036854775808 = 0 := by rw [← HN3.out]; omega
          have Hnum := show Hid _ from hnum
          clear hlow hnum Hend
          go_upto_region 13 with fail
          go_wp2_with (first
            | refine wpList_load_own (by rfl) 83 (.tmp 6) (by rfl) bN (by rfl) (A4 h) _ hKr.h1 Tryz.underlying83 (by rfl) infoSN ?_
            | refine wpList_store_own (by rfl) 83 (.tmp 4) (.tmp 61) (by rfl) bR 0 (A4 h) (by rfl) (by rfl) hKr.h2 (Nat.le_refl _) infoSN (A4_one h) (by rfl) ?_)
          refine bodyPost_ret (results_own Tryz.results93 _ _ bR (A4 h) _ (by rfl) (own_setCells hKr.h2 rfl) Tryz.underlying83 rfl infoSN) rfl ⟨by rw [Hnum.out], ?_⟩
          exact Below.setCells _ _ _ _ hleR hKr.2
        · have h63 : ((hN3 : Int) / 9223372036854775808 == 0) = false := by rw [← HN3.out, beq_eq_false_iff_ne]; omega
          have Hny := show Hid _ from hny
          have HyL := show Hid _ from hyL
          obtain ⟨g, HG⟩ : ∃ g, Hid (h = g) := ⟨_, rfl⟩
          have hK2 := hKr
          rw [HG.out] at hK2 hh Hny
          clear hhigh hny hyL Hend hKr
          go_upto_region 15 with fail
          clear cN h63
          go_wp2_with fail
          go_loopw [62, 11] (fun ii cc wr => ∃ (k c : Nat) (h : Nat → Nat), k ≤ 4 ∧ ii = .int .i64 (k : Int) ∧ cc = .int .u64 (c : Int) ∧ c ≤ 1 ∧ (∀ j, j < 4 → h j < 18446744073709551616) ∧ (∀ j, k ≤ j → h j = g j) ∧ Hid (vl g k + vl (dig LL) k = vl h k + 18446744073709551616 ^ k * c) ∧ Kp [(bN, A4 h, 83), (bR, numA 0, 83), (bA, numA r, 83)] w wr) (fun ii _ _ => 4 - (intOf ii).toNat)
          case atStart => exact ⟨0, 0, g, by omega, rfl, rfl, by omega, hh, fun _ _ => rfl, by show _ = _; simp [vl], hK2⟩
          case round =>
            obtain ⟨k, c, h, hk, rfl, rfl, hc, hh, hhk, He, hKr⟩ := hrel
            have hk0 : (0 : Int) ≤ (k : Int) := by omega
            by_cases hlt : k < 4
            · have hki : (k : Int) < 4 := by omega
              obtain ⟨s, c', rs, hs, hc', es⟩ := add64_any (h k) (dig LL k) c (hh k hlt) (dig_lt _ _) hc
              have Hst : Hid (vl g (k + 1) + vl (dig LL) (k + 1) = vl (upd h k s) (k + 1) + 18446744073709551616 ^ (k + 1) * c') := vl_add_step He.out (by rw [← hhk k (Nat.le_refl _)]; exact es)
              have Hhk := show Hid _ from hhk
              clear es hhk
              go_upto_region 19 with fail
              refine wp_region_vals 80 (by kernel_rfl) (by kernel_rfl) (by rfl) (valNext bN k c c' s h) (fun L => Kp [(bN, if L 13 = true then A4 (upd h k s) else A4 h, 83), (bR, numA 0, 83), (bA, numA r, 83)] w) hKr.drew ?_ ?_
              · intro L ac wc i o hF hLi ho hd K hK
                rcases i with _ | _ | _ | _ | _ | _ | _ | _ | _ | _ | _ | _ | _ | _ | _ | i
                · have ho' := ho
                  obtain rfl := Option.some.inj ho
                  have f12 : ac.tmps.getD 12 undef = .int .i64 (k : Int) := slotv hF 0 hLi 12 (by kernel_rfl)
                  refine step_do ho' (wanted_free rfl) ?_
                  unfold Oper.wp
                  go_simp
                  exact hK _ _ (.inr rfl) hF.j
                · have ho' := ho
                  obtain rfl := Option.some.inj ho
                  have f12 : ac.tmps.getD 12 undef = .int .i64 (k : Int) := slotv hF 1 hLi 12 (by kernel_rfl)
                  refine step_do ho' (wanted_free rfl) ?_
                  unfold Oper.wp
                  go_simp
                  exact hK _ _ (.inr rfl) hF.j
                · have ho' := ho
                  obtain rfl := Option.some.inj ho
                  have f6 : ac.tmps.getD 6 undef = .pointer (some ⟨bN, 0, none⟩) := slotv hF 2 hLi 6 (by kernel_rfl)
                  have f67 : ac.tmps.getD 67 undef = .int .i64 (k : Int) := valv hF hd 1 rfl rfl (by kernel_rfl)
                  refine step_do ho' (wanted_free rfl) ?_
                  unfold Oper.wp
                  go_simp
                  exact hK _ _ (.inr rfl) hF.j
                · have ho' := ho
                  obtain rfl := Option.some.inj ho
                  have f68 : ac.tmps.getD 68 undef = .pointer (some ⟨bN, k, none⟩) := valv hF hd 2 rfl rfl (by kernel_rfl)
                  refine step_do ho' (wanted_free rfl) ?_
                  have hn13 := notyet hF 3 hLi 13 rfl (by kernel_rfl)
                  have hj := hF.j
                  rw [hn13] at hj
                  have cN := hj.h1.cell (A4_at h k hlt)
                  unfold Oper.wp
                  go_simp
                  exact hK _ _ (.inr rfl) hF.j
                · have ho' := ho
                  obtain rfl := Option.some.inj ho
                  have f12 : ac.tmps.getD 12 undef = .int .i64 (k : Int) := slotv hF 4 hLi 12 (by kernel_rfl)
                  refine step_do ho' (wanted_free rfl) ?_
                  unfold Oper.wp
                  go_simp
                  exact hK _ _ (.inr rfl) hF.j
                · have ho' := ho
                  obtain rfl := Option.some.inj ho
                  have f70 : ac.tmps.getD 70 undef = .int .i64 (k : Int) := valv hF hd 4 rfl rfl (by kernel_rfl)
                  refine step_do ho' (wanted_free rfl) ?_
                  unfold Oper.wp
                  go_simp
                  exact hK _ _ (.inr rfl) hF.j
                · have ho' := ho
                  obtain rfl := Option.some.inj ho
                  have f71 : ac.tmps.getD 71 undef = .pointer (some ⟨6, k, none⟩) := valv hF hd 5 rfl rfl (by kernel_rfl)
                  refine step_do ho' (wanted_free rfl) ?_
                  have cG := (hT.kp hF.j).2 k hlt
                  unfold Oper.wp
                  go_simp
                  exact hK _ _ (.inr rfl) hF.j
                · have ho' := ho
                  obtain rfl := Option.some.inj ho
                  have f11 : ac.tmps.getD 11 undef = .int .u64 (c : Int) := slotv hF 7 hLi 11 (by kernel_rfl)
                  refine step_do ho' (wanted_free rfl) ?_
                  unfold Oper.wp
                  go_simp
                  exact hK _ _ (.inr rfl) hF.j
                · have ho' := ho
                  obtain rfl := Option.some.inj ho
                  have f69 : ac.tmps.getD 69 undef = .int .u64 (h k : Int) := valv hF hd 3 rfl rfl (by kernel_rfl)
                  have f72 : ac.tmps.getD 72 undef = .int .u64 (dig LL k : Int) := valv hF hd 6 rfl rfl (by kernel_rfl)
                  have f73 : ac.tmps.getD 73 undef = .int .u64 (c : Int) := valv hF hd 7 rfl rfl (by kernel_rfl)
                  refine step_do ho' (wanted_free rfl) ?_
                  unfold Oper.wp
                  go_simp
                  exact hK _ _ (.inr rfl) hF.j
                · have ho' := ho
                  obtain rfl := Option.some.inj ho
                  have f74 : ac.tmps.getD 74 undef = .tuple #[.int .u64 (s : Int), .int .u64 (c' : Int)] := valv hF hd 8 rfl rfl (by kernel_rfl)
                  refine step_do ho' (wanted_free rfl) ?_
                  unfold Oper.wp
                  go_simp
                  exact hK _ _ (.inr rfl) hF.j
                · have ho' := ho
                  obtain rfl := Option.some.inj ho
                  have f65 : ac.tmps.getD 65 undef = .tuple #[.int .u64 (s : Int), .int .u64 (c' : Int)] := valv hF hd 9 rfl rfl (by kernel_rfl)
                  refine step_do ho' (wanted_free rfl) ?_
                  unfold Oper.wp
                  go_simp
                  exact hK _ _ (.inr rfl) hF.j
                · have ho' := ho
                  obtain rfl := Option.some.inj ho
                  have f65 : ac.tmps.getD 65 undef = .tuple #[.int .u64 (s : Int), .int .u64 (c' : Int)] := valv hF hd 9 rfl rfl (by kernel_rfl)
                  refine step_do ho' (wanted_free rfl) ?_
                  unfold Oper.wp
                  go_simp
                  exact hK _ _ (.inr rfl) hF.j
                · have ho' := ho
                  obtain rfl := Option.some.inj ho
                  have f6 : ac.tmps.getD 6 undef = .pointer (some ⟨bN, 0, none⟩) := slotv hF 12 hLi 6 (by kernel_rfl)
                  have f66 : ac.tmps.getD 66 undef = .int .i64 (k : Int) := valv hF hd 0 rfl rfl (by kernel_rfl)
                  refine step_do ho' (wanted_free rfl) ?_
                  unfold Oper.wp
                  go_simp
                  exact hK _ _ (.inr rfl) hF.j
                · have ho' := ho
                  obtain rfl := Option.some.inj ho
                  have f77 : ac.tmps.getD 77 undef = .pointer (some ⟨bN, k, none⟩) := valv hF hd 12 rfl rfl (by kernel_rfl)
                  have f75 : ac.tmps.getD 75 undef = .int .u64 (s : Int) := valv hF hd 10 rfl rfl (by kernel_rfl)
                  refine step_do ho' (wanted_free rfl) ?_
                  have hj := hF.j
                  rw [hLi] at hj
                  have cN := hj.h1.cell (A4_at h k hlt)
                  have fN := hj.h1.frozen k
                  unfold Oper.wp
                  go_simp
                  refine hK undef _ (.inl rfl) ?_
                  have hs := Kp.setCell (i := k) (v := .int .u64 (s : Int)) hj (by simp; omega) hleN
                  rw [show (if false = true then A4 (upd h k s) else A4 h) = A4 h from rfl, A4_set h k s hlt] at hs
                  exact hs
                · have ho' := ho
                  obtain rfl := Option.some.inj ho
                  have f76 : ac.tmps.getD 76 undef = .int .u64 (c' : Int) := valv hF hd 11 rfl rfl (by kernel_rfl)
                  refine step_do ho' (wanted_free rfl) ?_
                  unfold Oper.wp
                  go_simp
                  exact hK _ _ (.inr rfl) hF.j
                · cases ho
              · intro L wq hL hKq
                rw [hL 13 (by decide)] at hKq
                simp only [putAll, valNext, Act.put, List.setIfInBounds_toArray, List.set_cons_succ, List.set_cons_zero]
                go_wp2_with fail
                refine ⟨⟨k + 1, c', upd h k s, by omega, by go_num, rfl, hc', fun j hj => ?_, fun j hj => ?_, Hst.out, hKq⟩, by simp [intOf]; omega⟩
                · by_cases e : j = k
                  · rw [e, upd_same]; exact hs
                  · rw [upd_other _ _ _ _ e]; exact hh j hj
                · rw [upd_other _ _ _ _ (by omega)]; exact Hhk.out j (by omega)
            · have hki : ¬ (k : Int) < 4 := by omega
              have Hnum : Hid (A4 h = numA ((d + 18446744073709551616 * r) % LL)) := by
                have e := He.out
                rw [show k = 4 by omega] at e
                exact next_more hh Hny.out HyL.out hc e
              clear He
              go_upto_region 21 with fail
              go_wp2_with (first
                | refine wpList_load_own (by rfl) 83 (.tmp 6) (by rfl) bN (by rfl) (A4 h) _ hKr.h1 Tryz.underlying83 (by rfl) infoSN ?_
                | refine wpList_store_own (by rfl) 83 (.tmp 4) (.tmp 79) (by rfl) bR 0 (A4 h) (by rfl) (by rfl) hKr.h2 (Nat.le_refl _) infoSN (A4_one h) (by rfl) ?_)
              refine bodyPost_ret (results_own Tryz.results93 _ _ bR (A4 h) _ (by rfl) (own_setCells hKr.h2 rfl) Tryz.underlying83 rfl infoSN) rfl ⟨by rw [Hnum.out], ?_⟩
              exact Below.setCells _ _ _ _ hleR hKr.2
end Go.Proofs.YtgibllaifnnfkaaGreatDoor
