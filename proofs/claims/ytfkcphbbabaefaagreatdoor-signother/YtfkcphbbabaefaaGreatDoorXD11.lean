/- Of the texts E7: what the card of this claim reaches. -/
import Derived.Test.YtfkcphbbabaefaaGreatDoorXD9
import Derived.Test.YtfkcphbbabaefaaGreatDoorXD3
namespace Go.Proofs.YtfkcphbbabaefaaGreatDoor
open Go.RowKit
theorem mul64_at {x y h l : Nat} (hx : x < 18446744073709551616) (hy : y < 18446744073709551616) (hl : l < 18446744073709551616) (e : x * y = l + 18446744073709551616 * h) (w : World) :
    Calls Tryz.prog 79 #[.int .u64 (x : Int), .int .u64 (y : Int)] w fun e w' => e = .returned (.tuple #[.int .u64 (h : Int), .int .u64 (l : Int)]) ∧ w' = w := by
  refine (mul64_any x y hx hy w).mono ?_
  rintro e w' ⟨⟨h', l', rfl, hh, hl', he⟩, rfl⟩
  obtain rfl : h' = h := by omega
  obtain rfl : l' = l := by omega
  exact ⟨rfl, rfl⟩
def valM (f g : Nat → Nat) (i k bA bB hi lo : Nat) : Nat → Value
  | 0 => .int .i64 (i : Int)
  | 1 => .pointer (some ⟨bA, i, none⟩)
  | 2 => .int .u64 (f i : Int)
  | 3 => .int .i64 (k : Int)
  | 4 => .pointer (some ⟨bB, k, none⟩)
  | 5 => .int .u64 (g k : Int)
  | 8 => .int .u64 (hi : Int)
  | 9 => .int .u64 (lo : Int)
  | 10 => .int .u64 (hi : Int)
  | 11 => .int .u64 (lo : Int)
  | _ => .tuple #[.int .u64 (hi : Int), .int .u64 (lo : Int)]
theorem zeroA8 : (Tryz.prog.info? 63).map (fun i => (i.zero, i.size)) = some (some (.agg (A8 fun _ => 0)), 8) := by kernel_rfl
set_option maxRecDepth 100000 in
set_option maxHeartbeats 8000000 in
theorem times_dig (f g : Nat → Nat) (hf : ∀ i, i < 4 → f i < 18446744073709551616) (hg : ∀ i, i < 4 → g i < 18446744073709551616) (w : World) :
    Calls Tryz.prog 57 #[.agg (A4 f), .agg (A4 g)] w fun e w' => (∃ o : Nat → Nat, e = .returned (.agg (A8 o)) ∧ (∀ i, i < 8 → o i < 18446744073709551616) ∧ vl o 8 = vl f 4 * vl g 4) ∧ Below w.heap.size w w' := by
  have hz := (zero_of_info zeroA8).1
  go_enter Tryz.func57, Tryz.ntmps57
  go_wp2_with fail
  have hK0 := ((((Kp.nil w).alloc (A4 f) 50).alloc (A4 g) 50).alloc (A8 fun _ => 0) 63).alloc (A8 fun _ => 0) 63
  rw [World.size_alloc, World.size_alloc, World.size_alloc] at hK0
  generalize (((w.alloc (.cells (A4 f) 50)).alloc (.cells (A4 g) 50)).alloc (.cells (A8 fun _ => 0) 63)).alloc (.cells (A8 fun _ => 0) 63) = W at *
  obtain ⟨bA, HA⟩ : ∃ bA, Hid (w.heap.size = bA) := ⟨_, rfl⟩
  obtain ⟨bB, HB⟩ : ∃ bB, Hid (bA + 1 = bB) := ⟨_, rfl⟩
  obtain ⟨bR, HR⟩ : ∃ bR, Hid (bB + 1 = bR) := ⟨_, rfl⟩
  obtain ⟨bO, HO⟩ : ∃ bO, Hid (bR + 1 = bO) := ⟨_, rfl⟩
  have hleR : w.heap.size ≤ bR := by have := HA.out; have := HB.out; have := HR.out; omega
  have hleO : w.heap.size ≤ bO := by have := HO.out; omega
  have nA : bA ≠ bO := by have := HB.out; have := HR.out; have := HO.out; omega
  have nB : bB ≠ bO := by have := HR.out; have := HO.out; omega
  have nR : bR ≠ bO := by have := HO.out; omega
  rw [HA.out, HB.out, HR.out, HO.out] at hK0 ⊢
  go_loopw [6] (fun ii wr => ∃ (i : Nat) (o : Nat → Nat), i ≤ 4 ∧ ii = .int .i64 (i : Int) ∧ (∀ j, j < 8 → o j < 18446744073709551616) ∧ (∀ j, i + 4 ≤ j → o j = 0) ∧ Hid (vl o 8 = vl f i * vl g 4) ∧ Kp [(bO, A8 o, 63), (bR, A8 fun _ => 0, 63), (bB, A4 g, 50), (bA, A4 f, 50)] w wr) (fun ii _ => 4 - (intOf ii).toNat)
  case atStart => exact ⟨0, fun _ => 0, by omega, rfl, fun _ _ => by show 0 < 18446744073709551616; decide, fun _ _ => rfl, start_out f g, hK0⟩
  case round =>
    obtain ⟨i, o, hi4, rfl, hoo, hoz, Ho, hKr⟩ := hrel
    have hi0 : (0 : Int) ≤ (i : Int) := by omega
    by_cases hil : i < 4
    · have hii : (i : Int) < 4 := by omega
      go_wp2_with fail
      go_loopw [8, 7] (fun kk cc wr => ∃ (k c : Nat) (o' : Nat → Nat), k ≤ 4 ∧ kk = .int .i64 (k : Int) ∧ cc = .int .u64 (c : Int) ∧ c < 18446744073709551616 ∧ (∀ j, j < 8 → o' j < 18446744073709551616) ∧ (∀ j, i + 4 ≤ j → o' j = 0) ∧ Hid (vl o' 8 + c * 18446744073709551616 ^ (i + k) = vl o 8 + f i * vl g k * 18446744073709551616 ^ i) ∧ Kp [(bO, A8 o', 63), (bR, A8 fun _ => 0, 63), (bB, A4 g, 50), (bA, A4 f, 50)] w wr) (fun kk _ _ => 4 - (intOf kk).toNat)
      case atStart => exact ⟨0, 0, o, by omega, rfl, rfl, by decide, hoo, hoz, start_in _ _ _ _ g, hKr⟩
      case round =>
        obtain ⟨k, c, o', hk4, rfl, rfl, hc, hoo', hoz', Ho', hKi⟩ := hrel
        have hk0 : (0 : Int) ≤ (k : Int) := by omega
        by_cases hkl : k < 4
        · have hkk : (k : Int) < 4 := by omega
          obtain ⟨lo, hi, hlo, Hp, hhi⟩ : ∃ lo hi, lo < 18446744073709551616 ∧ Hid (f i * g k = lo + 18446744073709551616 * hi) ∧ hi < 18446744073709551615 := by
            have := word_mul (f i) (g k) (hf i hil) (hg k hkl)
            exact ⟨f i * g k % 18446744073709551616, f i * g k / 18446744073709551616, Nat.mod_lt _ (by decide), by show _ = _; omega, by omega⟩
          go_upto_region 9 with fail
          refine wp_region_vals 63 (by kernel_rfl) (by kernel_rfl) (by rfl) (valM f g i k bA bB hi lo) (fun _ => Kp [(bO, A8 o', 63), (bR, A8 fun _ => 0, 63), (bB, A4 g, 50), (bA, A4 f, 50)] w) hKi.drew ?_ ?_
          · intro L ac wc i' o'' hF hLi ho hd K hK
            rcases i' with _ | _ | _ | _ | _ | _ | _ | _ | _ | _ | _ | _ | i'
            · have ho' := ho
              obtain rfl := Option.some.inj ho
              have f6 : ac.tmps.getD 6 undef = .int .i64 (i : Int) := slotv hF 0 hLi 6 (by kernel_rfl)
              refine step_do ho' (wanted_free rfl) ?_
              unfold Oper.wp
              go_simp
              exact hK _ _ (.inr rfl) hF.j
            · have ho' := ho
              obtain rfl := Option.some.inj ho
              have f2 : ac.tmps.getD 2 undef = .pointer (some ⟨bA, 0, none⟩) := slotv hF 1 hLi 2 (by kernel_rfl)
              have f21 : ac.tmps.getD 21 undef = .int .i64 (i : Int) := valv hF hd 0 rfl rfl (by kernel_rfl)
              refine step_do ho' (wanted_free rfl) ?_
              unfold Oper.wp
              go_simp
              exact hK _ _ (.inr rfl) hF.j
            · have ho' := ho
              obtain rfl := Option.some.inj ho
              have f22 : ac.tmps.getD 22 undef = .pointer (some ⟨bA, i, none⟩) := valv hF hd 1 rfl rfl (by kernel_rfl)
              refine step_do ho' (wanted_free rfl) ?_
              have cA := (hF.j.at bA (A4 f) 50 (by simp)).cell (A4_at f i hil)
              unfold Oper.wp
              go_simp
              exact hK _ _ (.inr rfl) hF.j
            · have ho' := ho
              obtain rfl := Option.some.inj ho
              have f8 : ac.tmps.getD 8 undef = .int .i64 (k : Int) := slotv hF 3 hLi 8 (by kernel_rfl)
              refine step_do ho' (wanted_free rfl) ?_
              unfold Oper.wp
              go_simp
              exact hK _ _ (.inr rfl) hF.j
            · have ho' := ho
              obtain rfl := Option.some.inj ho
              have f3 : ac.tmps.getD 3 undef = .pointer (some ⟨bB, 0, none⟩) := slotv hF 4 hLi 3 (by kernel_rfl)
              have f24 : ac.tmps.getD 24 undef = .int .i64 (k : Int) := valv hF hd 3 rfl rfl (by kernel_rfl)
              refine step_do ho' (wanted_free rfl) ?_
              unfold Oper.wp
              go_simp
              exact hK _ _ (.inr rfl) hF.j
            · have ho' := ho
              obtain rfl := Option.some.inj ho
              have f25 : ac.tmps.getD 25 undef = .pointer (some ⟨bB, k, none⟩) := valv hF hd 4 rfl rfl (by kernel_rfl)
              refine step_do ho' (wanted_free rfl) ?_
              have cB := (hF.j.at bB (A4 g) 50 (by simp)).cell (A4_at g k hkl)
              unfold Oper.wp
              go_simp
              exact hK _ _ (.inr rfl) hF.j
            · have ho' := ho
              obtain rfl := Option.some.inj ho
              have f23 : ac.tmps.getD 23 undef = .int .u64 (f i : Int) := valv hF hd 2 rfl rfl (by kernel_rfl)
              have f26 : ac.tmps.getD 26 undef = .int .u64 (g k : Int) := valv hF hd 5 rfl rfl (by kernel_rfl)
              refine step_do ho' (wanted_free rfl) ?_
              unfold Oper.wp
              go_simp
              refine (mul64_at (hf i hil) (hg k hkl) hlo Hp.out _).mono ?_
              rintro e w' ⟨rfl, rfl⟩
              exact hK _ _ (.inr rfl) hF.j
            · have ho' := ho
              obtain rfl := Option.some.inj ho
              have f27 : ac.tmps.getD 27 undef = .tuple #[.int .u64 (hi : Int), .int .u64 (lo : Int)] := valv hF hd 6 rfl rfl (by kernel_rfl)
              refine step_do ho' (wanted_free rfl) ?_
              unfold Oper.wp
              go_simp
              exact hK _ _ (.inr rfl) hF.j
            · have ho' := ho
              obtain rfl := Option.some.inj ho
              have f20 : ac.tmps.getD 20 undef = .tuple #[.int .u64 (hi : Int), .int .u64 (lo : Int)] := valv hF hd 7 rfl rfl (by kernel_rfl)
              refine step_do ho' (wanted_free rfl) ?_
              unfold Oper.wp
              go_simp
              exact hK _ _ (.inr rfl) hF.j
            · have ho' := ho
              obtain rfl := Option.some.inj ho
              have f20 : ac.tmps.getD 20 undef = .tuple #[.int .u64 (hi : Int), .int .u64 (lo : Int)] := valv hF hd 7 rfl rfl (by kernel_rfl)
              refine step_do ho' (wanted_free rfl) ?_
              unfold Oper.wp
              go_simp
              exact hK _ _ (.inr rfl) hF.j
            · have ho' := ho
              obtain rfl := Option.some.inj ho
              have f28 : ac.tmps.getD 28 undef = .int .u64 (hi : Int) := valv hF hd 8 rfl rfl (by kernel_rfl)
              refine step_do ho' (wanted_free rfl) ?_
              unfold Oper.wp
              go_simp
              exact hK _ _ (.inr rfl) hF.j
            · have ho' := ho
              obtain rfl := Option.some.inj ho
              have f29 : ac.tmps.getD 29 undef = .int .u64 (lo : Int) := valv hF hd 9 rfl rfl (by kernel_rfl)
              refine step_do ho' (wanted_free rfl) ?_
              unfold Oper.wp
              go_simp
              exact hK _ _ (.inr rfl) hF.j
            · cases ho
          · intro L wq hL hKq
            simp only [putAll, valM]
            have hik : i + k < 8 := by omega
            obtain ⟨lo1, c1, hr1, hl1, hc1, he1⟩ := add64_any lo (o' (i + k)) 0 hlo (hoo' (i + k) hik) (by omega)
            obtain ⟨lo2, c2, hr2, hl2, hc2, he2⟩ := add64_any lo1 c 0 hl1 hc (by omega)
            have hr1 : ∀ w, (callFunc 58 #[.int .u64 (lo : Int), .int .u64 (o' (i + k) : Int), .int .u64 0]).run Tryz.prog w = .ok (.value (.tuple #[.int .u64 (lo1 : Int), .int .u64 (c1 : Int)])) w := hr1
            have hr2 : ∀ w, (callFunc 58 #[.int .u64 (lo1 : Int), .int .u64 (c : Int), .int .u64 0]).run Tryz.prog w = .ok (.value (.tuple #[.int .u64 (lo2 : Int), .int .u64 (c2 : Int)])) w := hr2
            have hw1 : IntKind.u64.wrap ((hi : Int) + (c1 : Int)) = ((hi + c1 : Nat) : Int) := by
              rw [show (hi : Int) + (c1 : Int) = ((hi + c1 : Nat) : Int) by omega]; exact wrap_small _ (by omega)
            have Hsum : Hid (f i * g k + o' (i + k) + c = lo2 + 18446744073709551616 * (hi + c1 + c2)) := by
              show _ = _
              have := Hp.out
              omega
            have hh2 : hi + c1 + c2 < 18446744073709551616 := by
              have h1 := word_mul (f i) (g k) (hf i hil) (hg k hkl)
              have h2 := hoo' (i + k) hik
              have h3 := Hsum.out
              generalize f i * g k = PP at *
              omega
            have hw2 : IntKind.u64.wrap (((hi + c1 : Nat) : Int) + (c2 : Int)) = ((hi + c1 + c2 : Nat) : Int) := by
              rw [show ((hi + c1 : Nat) : Int) + (c2 : Int) = ((hi + c1 + c2 : Nat) : Int) by omega]; exact wrap_small _ hh2
            have Hst := show Hid _ from times_step hik Ho'.out Hsum.out
            have cO := (hKq.at bO (A8 o') 63 (by simp)).cell (A8_at o' (i + k) hik)
            have fO := (hKq.at bO (A8 o') 63 (by simp)).frozen (i + k)
            have hiki : (i : Int) + (k : Int) < 8 := by omega
            have hik0 : (0 : Int) ≤ (i : Int) + (k : Int) := by omega
            have hikt : ((i : Int) + (k : Int)).toNat = i + k := by omega
            clear he1 he2
            generalize hi + c1 + c2 = h2 at *
            generalize hi + c1 = h1 at *
            generalize o' (i + k) = x at cO hr1
            go_wp2_with (first | simp only [hr1] | simp only [hr2])
            refine ⟨⟨k + 1, h2, upd o' (i + k) lo2, by omega, by go_num, rfl, hh2, fun j hj => ?_, fun j hj => ?_, Hst.out, ?_⟩, by simp [intOf]; omega⟩
            · by_cases e : j = i + k
              · rw [e, upd_same]; exact hl2
              · rw [upd_other _ _ _ _ e]; exact hoo' j hj
            · rw [upd_other _ _ _ _ (by omega)]; exact hoz' j hj
            · have := Kp.setCell (i := i + k) (v := .int .u64 (lo2 : Int)) hKq (by simp; omega) hleO
              rw [A8_set o' (i + k) lo2 hik] at this
              exact this
        · have hkk : ¬ (k : Int) < 4 := by omega
          have hk4' : k = 4 := by omega
          have Hrow : Hid (vl (upd o' (i + 4) c) 8 = vl f (i + 1) * vl g 4) := by
            show _ = _
            have h1 := Ho'.out
            rw [hk4'] at h1
            exact times_row (by omega) (hoz' (i + 4) (by omega)) Ho.out h1
          clear hk4'
          have cO := (hKi.at bO (A8 o') 63 (by simp)).cell (A8_at o' (i + 4) (by omega))
          have fO := (hKi.at bO (A8 o') 63 (by simp)).frozen (i + 4)
          have hi4i : (i : Int) + 4 < 8 := by omega
          have hi40 : (0 : Int) ≤ (i : Int) + 4 := by omega
          have hi4t : ((i : Int) + 4).toNat = i + 4 := by omega
          go_wp2_with fail
          refine ⟨⟨i + 1, upd o' (i + 4) c, by omega, by go_num, fun j hj => ?_, fun j hj => ?_, Hrow.out, ?_⟩, by simp [intOf]; omega⟩
          · by_cases e : j = i + 4
            · rw [e, upd_same]; exact hc
            · rw [upd_other _ _ _ _ e]; exact hoo' j hj
          · rw [upd_other _ _ _ _ (by omega)]; exact hoz' j (by omega)
          · have := Kp.setCell (i := i + 4) (v := .int .u64 (c : Int)) hKi (by simp; omega) hleO
            rw [A8_set o' (i + 4) c (by omega)] at this
            exact this
    · have hii : ¬ (i : Int) < 4 := by omega
      have hi4' : i = 4 := by omega
      have Hfin : Hid (vl o 8 = vl f 4 * vl g 4) := by
        show _ = _
        have := Ho.out
        rwa [hi4'] at this
      clear hi4'
      go_upto_region 16 with fail
      go_wp2_with (first
        | refine wpList_load_own (by rfl) 63 (.tmp 5) (by rfl) bO (by rfl) (A8 o) _ (hKr.at bO (A8 o) 63 (by simp)) Tryz.underlying63 (by rfl) infoA8 ?_
        | refine wpList_store_own (by rfl) 63 (.tmp 4) (.tmp 62) (by rfl) bR 0 (A8 o) (by rfl) (by rfl) (hKr.at bR (A8 fun _ => 0) 63 (by simp)) (Nat.le_refl _) infoA8 (A8_one o) (by rfl) ?_)
      refine bodyPost_ret (results_own Tryz.results57 _ _ bR (A8 o) _ (by rfl) (own_setCells (hKr.at bR (A8 fun _ => 0) 63 (by simp)) rfl) Tryz.underlying63 rfl infoA8) rfl ⟨⟨o, rfl, hoo, Hfin.out⟩, ?_⟩
      exact Below.setCells _ _ _ _ hleR hKr.2
end Go.Proofs.YtfkcphbbabaefaaGreatDoor
