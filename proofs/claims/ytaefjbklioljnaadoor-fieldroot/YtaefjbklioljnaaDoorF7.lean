/- Words out of bytes and into bytes. -/
import Derived.Test.YtaefjbklioljnaaDoorF6
namespace Go.Proofs.YtaefjbklioljnaaDoor
open Go.RowKit
theorem or_more (x c k : Nat) (hk : k < 64) (hx : x < 2 ^ k) (hc : c * 2 ^ k < 18446744073709551616) : bits .or .u64 (x : Int) ((c * 2 ^ k : Nat) : Int) = ((x + c * 2 ^ k : Nat) : Int) := by
  have h1 : x < 18446744073709551616 := Nat.lt_trans hx (Nat.lt_of_lt_of_le (Nat.pow_lt_pow_right (by decide) hk) (by decide))
  rw [u64_or_nat x (c * 2 ^ k) h1 hc, Nat.mul_comm c, Nat.add_comm x, Nat.or_comm, Nat.two_pow_add_eq_or_of_lt hx]
theorem or_at (x c k p : Nat) (hp : 2 ^ k = p) (hk : k < 64) (hx : x < p) (hc : c * p < 18446744073709551616) : bits .or .u64 (x : Int) ((c : Int) * (p : Int)) = ((x + c * p : Nat) : Int) := by
  rw [← hp] at hx hc ⊢
  rw [show (c : Int) * ((2 ^ k : Nat) : Int) = ((c * 2 ^ k : Nat) : Int) from (Int.natCast_mul _ _).symm]
  exact or_more x c k hk hx hc
theorem word_or {f0 f1 f2 f3 f4 f5 f6 f7 : Nat} (h0 : f0 < 256) (h1 : f1 < 256) (h2 : f2 < 256) (h3 : f3 < 256) (h4 : f4 < 256) (h5 : f5 < 256) (h6 : f6 < 256) (h7 : f7 < 256) :
    bits .or .u64 (bits .or .u64 (bits .or .u64 (bits .or .u64 (bits .or .u64 (bits .or .u64 (bits .or .u64 (f0 : Int) ((f1 : Int) * 256)) ((f2 : Int) * 65536)) ((f3 : Int) * 16777216)) ((f4 : Int) * 4294967296)) ((f5 : Int) * 1099511627776)) ((f6 : Int) * 281474976710656)) ((f7 : Int) * 72057594037927936) =
      ((f0 + f1 * 256 + f2 * 65536 + f3 * 16777216 + f4 * 4294967296 + f5 * 1099511627776 + f6 * 281474976710656 + f7 * 72057594037927936 : Nat) : Int) := by
  have e1 : bits .or .u64 (f0 : Int) ((f1 : Int) * 256) = _ := or_at f0 f1 8 256 rfl (by decide) h0 (by omega)
  have e2 : bits .or .u64 ((f0 + f1 * 256 : Nat) : Int) ((f2 : Int) * 65536) = _ := or_at _ f2 16 65536 rfl (by decide) (by omega) (by omega)
  have e3 : bits .or .u64 ((f0 + f1 * 256 + f2 * 65536 : Nat) : Int) ((f3 : Int) * 16777216) = _ := or_at _ f3 24 16777216 rfl (by decide) (by omega) (by omega)
  have e4 : bits .or .u64 ((f0 + f1 * 256 + f2 * 65536 + f3 * 16777216 : Nat) : Int) ((f4 : Int) * 4294967296) = _ := or_at _ f4 32 4294967296 rfl (by decide) (by omega) (by omega)
  have e5 : bits .or .u64 ((f0 + f1 * 256 + f2 * 65536 + f3 * 16777216 + f4 * 4294967296 : Nat) : Int) ((f5 : Int) * 1099511627776) = _ := or_at _ f5 40 1099511627776 rfl (by decide) (by omega) (by omega)
  have e6 : bits .or .u64 ((f0 + f1 * 256 + f2 * 65536 + f3 * 16777216 + f4 * 4294967296 + f5 * 1099511627776 : Nat) : Int) ((f6 : Int) * 281474976710656) = _ := or_at _ f6 48 281474976710656 rfl (by decide) (by omega) (by omega)
  have e7 : bits .or .u64 ((f0 + f1 * 256 + f2 * 65536 + f3 * 16777216 + f4 * 4294967296 + f5 * 1099511627776 + f6 * 281474976710656 : Nat) : Int) ((f7 : Int) * 72057594037927936) = _ := or_at _ f7 56 72057594037927936 rfl (by decide) (by omega) (by omega)
  rw [e1, e2, e3, e4, e5, e6, e7]
set_option maxRecDepth 100000 in
set_option maxHeartbeats 8000000 in
theorem word_any (b off cap : Nat) (f0 f1 f2 f3 f4 f5 f6 f7 : Nat) (w : World)
    (c0 : w.cell? ⟨b, off, none⟩ = some (.int .u8 (f0 : Int))) (c1 : w.cell? ⟨b, off + 1, none⟩ = some (.int .u8 (f1 : Int))) (c2 : w.cell? ⟨b, off + 2, none⟩ = some (.int .u8 (f2 : Int))) (c3 : w.cell? ⟨b, off + 3, none⟩ = some (.int .u8 (f3 : Int)))
    (c4 : w.cell? ⟨b, off + 4, none⟩ = some (.int .u8 (f4 : Int))) (c5 : w.cell? ⟨b, off + 5, none⟩ = some (.int .u8 (f5 : Int))) (c6 : w.cell? ⟨b, off + 6, none⟩ = some (.int .u8 (f6 : Int))) (c7 : w.cell? ⟨b, off + 7, none⟩ = some (.int .u8 (f7 : Int)))
    (h0 : f0 < 256) (h1 : f1 < 256) (h2 : f2 < 256) (h3 : f3 < 256) (h4 : f4 < 256) (h5 : f5 < 256) (h6 : f6 < 256) (h7 : f7 < 256) :
    Calls Tryd.prog 44 #[.slice (some ⟨b, off, none⟩) 8 cap] w fun r w' => r = .returned (.int .u64 ((f0 + f1 * 256 + f2 * 65536 + f3 * 16777216 + f4 * 4294967296 + f5 * 1099511627776 + f6 * 281474976710656 + f7 * 72057594037927936 : Nat) : Int)) ∧ Below w.heap.size w w' := by
  go_enter Tryd.func44, Tryd.ntmps44
  go_upto_region 2 with fail
  go_quiet (fail)
  go_wp2_with fail
  go_ret
  refine ⟨by rw [← word_or h0 h1 h2 h3 h4 h5 h6 h7]; rfl, below_drewN (Below.refl _ _) _⟩
theorem dig_bytes (a k : Nat) : bdig a (8 * k) + bdig a (8 * k + 1) * 256 + bdig a (8 * k + 2) * 65536 + bdig a (8 * k + 3) * 16777216 + bdig a (8 * k + 4) * 4294967296 + bdig a (8 * k + 5) * 1099511627776 + bdig a (8 * k + 6) * 281474976710656 + bdig a (8 * k + 7) * 72057594037927936 = dig a k := by
  have hb : ∀ i, bdig a (8 * k + i) = a / 256 ^ (8 * k) / 256 ^ i % 256 := fun i => by unfold bdig; rw [Nat.div_div_eq_div_mul, ← Nat.pow_add]
  have h0 := hb 0
  rw [Nat.add_zero] at h0
  rw [h0, hb 1, hb 2, hb 3, hb 4, hb 5, hb 6, hb 7]
  unfold dig
  rw [w_pow]
  generalize a / 256 ^ (8 * k) = y
  have := vb_bdig y 8
  simp only [vb, bdig] at this
  omega
theorem word_at (a k b cap : Nat) (w : World) (hk : k < 4) {t : TypeId} (ho : Own w b (B32 (bdig a)) t) :
    Calls Tryd.prog 44 #[.slice (some ⟨b, 8 * k, none⟩) 8 cap] w fun r w' => r = .returned (.int .u64 (dig a k : Int)) ∧ Below w.heap.size w w' := by
  have h := word_any b (8 * k) cap (bdig a (8 * k)) (bdig a (8 * k + 1)) (bdig a (8 * k + 2)) (bdig a (8 * k + 3)) (bdig a (8 * k + 4)) (bdig a (8 * k + 5)) (bdig a (8 * k + 6)) (bdig a (8 * k + 7)) w
    (ho.cell (B32_at _ _ (by omega))) (ho.cell (B32_at _ _ (by omega))) (ho.cell (B32_at _ _ (by omega))) (ho.cell (B32_at _ _ (by omega))) (ho.cell (B32_at _ _ (by omega))) (ho.cell (B32_at _ _ (by omega))) (ho.cell (B32_at _ _ (by omega))) (ho.cell (B32_at _ _ (by omega)))
    (bdig_lt _ _) (bdig_lt _ _) (bdig_lt _ _) (bdig_lt _ _) (bdig_lt _ _) (bdig_lt _ _) (bdig_lt _ _) (bdig_lt _ _)
  rw [dig_bytes] at h
  exact h
def valRead (a bB : Nat) : Nat → Value
  | 0 => .slice (some ⟨bB, 0, none⟩) 8 32
  | 1 => .int .u64 (dig a 0 : Int)
  | 2 => .slice (some ⟨bB, 8, none⟩) 8 24
  | 3 => .int .u64 (dig a 1 : Int)
  | 4 => .slice (some ⟨bB, 16, none⟩) 8 16
  | 5 => .int .u64 (dig a 2 : Int)
  | 6 => .slice (some ⟨bB, 24, none⟩) 8 8
  | 7 => .int .u64 (dig a 3 : Int)
  | 8 => .agg (numA a)
  | _ => undef

set_option maxRecDepth 100000 in
set_option maxHeartbeats 8000000 in
theorem read_any (a : Nat) (w : World) :
    Calls Tryd.prog 29 #[.agg (B32 (bdig a))] w fun r w' => r = .returned (.agg (numA a)) ∧ Below w.heap.size w w' := by
  have hz := (zero_of_info zeroFN).1
  go_enter Tryd.func29, Tryd.ntmps29
  go_upto_region 1 with fail
  have hK := ((Kp.nil w).alloc (B32 (bdig a)) 22).alloc (Q4 0 0 0 0) 46
  rw [World.size_alloc] at hK
  rw [Q4_zero]
  generalize (w.alloc (.cells (B32 (bdig a)) 22)).alloc (.cells (Q4 0 0 0 0) 46) = W at *
  obtain ⟨bB, H1⟩ : ∃ bB, Hid (w.heap.size = bB) := ⟨_, rfl⟩
  obtain ⟨bR, H2⟩ : ∃ bR, Hid (bB + 1 = bR) := ⟨_, rfl⟩
  have hleR : w.heap.size ≤ bR := by have := H1.out; have := H2.out; omega
  have nB : bB ≠ bR := by have := H2.out; omega
  rw [H1.out, H2.out] at hK ⊢
  refine wp_region_vals 12 (by kernel_rfl) (by kernel_rfl) (by rfl) (valRead a bB) (fun L => Kp [(bR, if L 9 then numA a else Q4 0 0 0 0, 46), (bB, B32 (bdig a), 22)] w) hK.drew ?_ ?_
  · intro L ac wc i o hF hLi ho hd K hK
    rcases i with _ | _ | _ | _ | _ | _ | _ | _ | _ | _ | i
    · have ho' := ho
      obtain rfl := Option.some.inj ho
      have f1 : ac.tmps.getD 1 undef = .pointer (some ⟨bB, 0, none⟩) := slotv hF 0 hLi 1 (by kernel_rfl)
      refine step_do ho' (wanted_free rfl) ?_
      unfold Oper.wp
      go_simp
      exact hK _ _ (.inr rfl) hF.j
    · have ho' := ho
      obtain rfl := Option.some.inj ho
      have f3 : ac.tmps.getD 3 undef = .slice (some ⟨bB, 0, none⟩) 8 32 := valv hF hd 0 rfl rfl (by kernel_rfl)
      refine step_do ho' (wanted_free rfl) ?_
      unfold Oper.wp
      go_simp
      refine (word_at a 0 bB 32 _ (by decide) hF.j.h2).mono ?_
      rintro e w' ⟨rfl, hB⟩
      exact hK _ _ (.inr rfl) (hF.j.below hB)
    · have ho' := ho
      obtain rfl := Option.some.inj ho
      have f1 : ac.tmps.getD 1 undef = .pointer (some ⟨bB, 0, none⟩) := slotv hF 2 hLi 1 (by kernel_rfl)
      refine step_do ho' (wanted_free rfl) ?_
      unfold Oper.wp
      go_simp
      exact hK _ _ (.inr rfl) hF.j
    · have ho' := ho
      obtain rfl := Option.some.inj ho
      have f5 : ac.tmps.getD 5 undef = .slice (some ⟨bB, 8, none⟩) 8 24 := valv hF hd 2 rfl rfl (by kernel_rfl)
      refine step_do ho' (wanted_free rfl) ?_
      unfold Oper.wp
      go_simp
      refine (word_at a 1 bB 24 _ (by decide) hF.j.h2).mono ?_
      rintro e w' ⟨rfl, hB⟩
      exact hK _ _ (.inr rfl) (hF.j.below hB)
    · have ho' := ho
      obtain rfl := Option.some.inj ho
      have f1 : ac.tmps.getD 1 undef = .pointer (some ⟨bB, 0, none⟩) := slotv hF 4 hLi 1 (by kernel_rfl)
      refine step_do ho' (wanted_free rfl) ?_
      unfold Oper.wp
      go_simp
      exact hK _ _ (.inr rfl) hF.j
    · have ho' := ho
      obtain rfl := Option.some.inj ho
      have f7 : ac.tmps.getD 7 undef = .slice (some ⟨bB, 16, none⟩) 8 16 := valv hF hd 4 rfl rfl (by kernel_rfl)
      refine step_do ho' (wanted_free rfl) ?_
      unfold Oper.wp
      go_simp
      refine (word_at a 2 bB 16 _ (by decide) hF.j.h2).mono ?_
      rintro e w' ⟨rfl, hB⟩
      exact hK _ _ (.inr rfl) (hF.j.below hB)
    · have ho' := ho
      obtain rfl := Option.some.inj ho
      have f1 : ac.tmps.getD 1 undef = .pointer (some ⟨bB, 0, none⟩) := slotv hF 6 hLi 1 (by kernel_rfl)
      refine step_do ho' (wanted_free rfl) ?_
      unfold Oper.wp
      go_simp
      exact hK _ _ (.inr rfl) hF.j
    · have ho' := ho
      obtain rfl := Option.some.inj ho
      have f9 : ac.tmps.getD 9 undef = .slice (some ⟨bB, 24, none⟩) 8 8 := valv hF hd 6 rfl rfl (by kernel_rfl)
      refine step_do ho' (wanted_free rfl) ?_
      unfold Oper.wp
      go_simp
      refine (word_at a 3 bB 8 _ (by decide) hF.j.h2).mono ?_
      rintro e w' ⟨rfl, hB⟩
      exact hK _ _ (.inr rfl) (hF.j.below hB)
    · have ho' := ho
      obtain rfl := Option.some.inj ho
      have f4 : ac.tmps.getD 4 undef = .int .u64 (dig a 0 : Int) := valv hF hd 1 rfl rfl (by kernel_rfl)
      have f6 : ac.tmps.getD 6 undef = .int .u64 (dig a 1 : Int) := valv hF hd 3 rfl rfl (by kernel_rfl)
      have f8 : ac.tmps.getD 8 undef = .int .u64 (dig a 2 : Int) := valv hF hd 5 rfl rfl (by kernel_rfl)
      have f10 : ac.tmps.getD 10 undef = .int .u64 (dig a 3 : Int) := valv hF hd 7 rfl rfl (by kernel_rfl)
      refine step_do ho' (wanted_free rfl) ?_
      have g4 := getq f4
      have g6 := getq f6
      have g8 := getq f8
      have g10 := getq f10
      unfold Oper.wp
      go_simp
      exact hK _ _ (.inr rfl) hF.j
    · have ho' := ho
      obtain rfl := Option.some.inj ho
      have f2 : ac.tmps.getD 2 undef = .pointer (some ⟨bR, 0, none⟩) := slotv hF 9 hLi 2 (by kernel_rfl)
      have f11 : ac.tmps.getD 11 undef = .agg (numA a) := valv hF hd 8 rfl rfl (by kernel_rfl)
      refine step_do ho' (wanted_free rfl) ?_
      have hj := hF.j
      rw [hLi] at hj
      refine wp_store_own 46 (.tmp 2) (.tmp 11) rfl bR (numA a) f2 f11 hj.h1 rfl infoFN (numA_one _) rfl ?_
      exact hK undef _ (.inl rfl) (Kp.set hj (by simp; omega) hleR rfl)
    · cases ho
  · intro L wq hL hKq
    rw [hL 9 (by decide)] at hKq
    simp only [putAll, valRead, Act.put, List.setIfInBounds_toArray, List.set_cons_succ, List.set_cons_zero]
    go_wp2_with fail
    exact bodyPost_ret (results_own Tryd.results29 _ _ bR (numA a) _ (by rfl) hKq.h1 Tryd.underlying46 rfl infoFN) rfl ⟨rfl, hKq.2⟩
end Go.Proofs.YtaefjbklioljnaaDoor
