/- Of the texts FB, F9: what the card of this claim reaches. -/
import Derived.Test.YtgibllaifnnfkaaGreatDoorXE5
import Derived.Test.YtgibllaifnnfkaaGreatDoorXE3
import Derived.Test.YtgibllaifnnfkaaGreatDoorXE4
namespace Go.Proofs.YtgibllaifnnfkaaGreatDoor
open Go.RowKit
theorem or_more (x c k : Nat) (hk : k < 64) (hx : x < 2 ^ k) (hc : c * 2 ^ k < 18446744073709551616) : bits .or .u64 (x : Int) ((c * 2 ^ k : Nat) : Int) = ((x + c * 2 ^ k : Nat) : Int) := by
  have h1 : x < 18446744073709551616 := Nat.lt_trans hx (Nat.lt_of_lt_of_le (Nat.pow_lt_pow_right (by decide) hk) (by decide))
  rw [u64_or_nat x (c * 2 ^ k) h1 hc, Nat.mul_comm c, Nat.add_comm x, Nat.or_comm, Nat.two_pow_add_eq_or_of_lt hx]
theorem or_at (x c k p : Nat) (hp : 2 ^ k = p) (hk : k < 64) (hx : x < p) (hc : c * p < 18446744073709551616) : bits .or .u64 (x : Int) ((c : Int) * (p : Int)) = ((x + c * p : Nat) : Int) := by
  rw [← hp] at hx hc ⊢
  rw [show (c : Int) * ((2 ^ k : Nat) : Int) = ((c * 2 ^ k : Nat) : Int) from (Int.natCast_mul _ _).symm]
  exact or_more x c k hk hx hc
theorem word_or {f0 f1 f2 f3 f4 f5 f6 f7 : Nat} (h0 : f0 < 256) (h1 : f1 < 256) (h2 : f2 < 256) (h3 : f3 < 256) (h4 : f4 < 256) (h5 : f5 < 256) (h6 : f6 < 256) (h7 : f7 < 256) :
    bits .or .u64 (bits .or .u64 (bits .or .u64 (bits .or .u64 (bits .or .u64 (bits .or .u64 (bits .or .u64 (f0 : Int) ((f1 : Int) * 256)) ((f2 : Int) * 65536)) ((f3 : Int) * 16777216)) ((f4 : Int) * 4294967296)) ((f5 : Int) * 1099511627776)) ((f6 : Int) * 281474976710656)) ((f7 : Int) * 72057594037927936) =
      ((f0 + f1 * 256 + f2 * 65536 + f3 * 16777216 + f4 * 4294967296 + f5 * 1099511627776 + f6 * 281474976710656 + f7 * 72057594037927936 : Nat) : Int) := by
  have e1 : bits .or .u64 (f0 : Int) ((f1 : Int) * 256) = _ := or_at f0 f1 8 256 rfl (by decide) h0 (by omega)
  have e2 : bits .or .u64 ((f0 + f1 * 256 : Nat) : Int) ((f2 : Int) * 65536) = _ := or_at _ f2 16 65536 rfl (by decide) (by omega) (by omega)
  have e3 : bits .or .u64 ((f0 + f1 * 256 + f2 * 65536 : Nat) : Int) ((f3 : Int) * 16777216) = _ := or_at _ f3 24 16777216 rfl (by decide) (by omega) (by omega)
  have e4 : bits .or .u64 ((f0 + f1 * 256 + f2 * 65536 + f3 * 16777216 : Nat) : Int) ((f4 : Int) * 4294967296) = _ := or_at _ f4 32 4294967296 rfl (by decide) (by omega) (by omega)
  have e5 : bits .or .u64 ((f0 + f1 * 256 + f2 * 65536 + f3 * 16777216 + f4 * 4294967296 : Nat) : Int) ((f5 : Int) * 1099511627776) = _ := or_at _ f5 40 1099511627776 rfl (by decide) (by omega) (by omega)
  have e6 : bits .or .u64 ((f0 + f1 * 256 + f2 * 65536 + f3 * 16777216 + f4 * 4294967296 + f5 * 1099511627776 : Nat) : Int) ((f6 : Int) * 281474976710656) = _ := or_at _ f6 48 281474976710656 rfl (by decide) (by omega) (by omega)
  have e7 : bits .or .u64 ((f0 + f1 * 256 + f2 * 65536 + f3 * 16777216 + f4 * 4294967296 + f5 * 1099511627776 + f6 * 281474976710656 : Nat) : Int) ((f7 : Int) * 72057594037927936) = _ := or_at _ f7 56 72057594037927936 rfl (by decide) (by omega) (by omega)
  rw [e1, e2, e3, e4, e5, e6, e7]
set_option maxRecDepth 100000 in
set_option maxHeartbeats 8000000 in
theorem word_any (b off cap : Nat) (f0 f1 f2 f3 f4 f5 f6 f7 : Nat) (w : World)
    (c0 : w.cell? ⟨b, off, none⟩ = some (.int .u8 (f0 : Int))) (c1 : w.cell? ⟨b, off + 1, none⟩ = some (.int .u8 (f1 : Int))) (c2 : w.cell? ⟨b, off + 2, none⟩ = some (.int .u8 (f2 : Int))) (c3 : w.cell? ⟨b, off + 3, none⟩ = some (.int .u8 (f3 : Int)))
    (c4 : w.cell? ⟨b, off + 4, none⟩ = some (.int .u8 (f4 : Int))) (c5 : w.cell? ⟨b, off + 5, none⟩ = some (.int .u8 (f5 : Int))) (c6 : w.cell? ⟨b, off + 6, none⟩ = some (.int .u8 (f6 : Int))) (c7 : w.cell? ⟨b, off + 7, none⟩ = some (.int .u8 (f7 : Int)))
    (h0 : f0 < 256) (h1 : f1 < 256) (h2 : f2 < 256) (h3 : f3 < 256) (h4 : f4 < 256) (h5 : f5 < 256) (h6 : f6 < 256) (h7 : f7 < 256) :
    Calls Tryz.prog 122 #[.slice (some ⟨b, off, none⟩) 8 cap] w fun r w' => r = .returned (.int .u64 ((f0 + f1 * 256 + f2 * 65536 + f3 * 16777216 + f4 * 4294967296 + f5 * 1099511627776 + f6 * 281474976710656 + f7 * 72057594037927936 : Nat) : Int)) ∧ Below w.heap.size w w' := by
  go_enter Tryz.func122, Tryz.ntmps122
  go_upto_region 2 with fail
  go_quiet (fail)
  go_wp2_with fail
  go_ret
  refine ⟨by rw [← word_or h0 h1 h2 h3 h4 h5 h6 h7]; rfl, below_drewN (Below.refl _ _) _⟩
theorem dig_bytes (a k : Nat) : bdig a (8 * k) + bdig a (8 * k + 1) * 256 + bdig a (8 * k + 2) * 65536 + bdig a (8 * k + 3) * 16777216 + bdig a (8 * k + 4) * 4294967296 + bdig a (8 * k + 5) * 1099511627776 + bdig a (8 * k + 6) * 281474976710656 + bdig a (8 * k + 7) * 72057594037927936 = dig a k := by
  have hb : ∀ i, bdig a (8 * k + i) = a / 256 ^ (8 * k) / 256 ^ i % 256 := fun i => by unfold bdig; rw [Nat.div_div_eq_div_mul, ← Nat.pow_add]
  have h0 := hb 0
  rw [Nat.add_zero] at h0
  rw [h0, hb 1, hb 2, hb 3, hb 4, hb 5, hb 6, hb 7]
  unfold dig
  rw [w_pow]
  generalize a / 256 ^ (8 * k) = y
  have := vb_bdig y 8
  simp only [vb, bdig] at this
  omega
theorem word_at (a k b cap : Nat) (w : World) (hk : k < 4) {t : TypeId} (ho : Own w b (B32 (bdig a)) t) :
    Calls Tryz.prog 122 #[.slice (some ⟨b, 8 * k, none⟩) 8 cap] w fun r w' => r = .returned (.int .u64 (dig a k : Int)) ∧ Below w.heap.size w w' := by
  have h := word_any b (8 * k) cap (bdig a (8 * k)) (bdig a (8 * k + 1)) (bdig a (8 * k + 2)) (bdig a (8 * k + 3)) (bdig a (8 * k + 4)) (bdig a (8 * k + 5)) (bdig a (8 * k + 6)) (bdig a (8 * k + 7)) w
    (ho.cell (B32_at _ _ (by omega))) (ho.cell (B32_at _ _ (by omega))) (ho.cell (B32_at _ _ (by omega))) (ho.cell (B32_at _ _ (by omega))) (ho.cell (B32_at _ _ (by omega))) (ho.cell (B32_at _ _ (by omega))) (ho.cell (B32_at _ _ (by omega))) (ho.cell (B32_at _ _ (by omega)))
    (bdig_lt _ _) (bdig_lt _ _) (bdig_lt _ _) (bdig_lt _ _) (bdig_lt _ _) (bdig_lt _ _) (bdig_lt _ _) (bdig_lt _ _)
  rw [dig_bytes] at h
  exact h
def valRead (a bB : Nat) : Nat → Value
  | 0 => .slice (some ⟨bB, 0, none⟩) 8 32
  | 1 => .int .u64 (dig a 0 : Int)
  | 2 => .slice (some ⟨bB, 8, none⟩) 8 24
  | 3 => .int .u64 (dig a 1 : Int)
  | 4 => .slice (some ⟨bB, 16, none⟩) 8 16
  | 5 => .int .u64 (dig a 2 : Int)
  | 6 => .slice (some ⟨bB, 24, none⟩) 8 8
  | 7 => .int .u64 (dig a 3 : Int)
  | 8 => .agg (numA a)
  | _ => undef
set_option maxRecDepth 100000 in
set_option maxHeartbeats 8000000 in
theorem read_any (a : Nat) (w : World) :
    Calls Tryz.prog 108 #[.agg (B32 (bdig a))] w fun r w' => r = .returned (.agg (numA a)) ∧ Below w.heap.size w w' := by
  have hz := (zero_of_info zeroFN).1
  go_enter Tryz.func108, Tryz.ntmps108
  go_upto_region 1 with fail
  have hK := ((Kp.nil w).alloc (B32 (bdig a)) 22).alloc (Q4 0 0 0 0) 131
  rw [World.size_alloc] at hK
  rw [Q4_zero]
  generalize (w.alloc (.cells (B32 (bdig a)) 22)).alloc (.cells (Q4 0 0 0 0) 131) = W at *
  obtain ⟨bB, H1⟩ : ∃ bB, Hid (w.heap.size = bB) := ⟨_, rfl⟩
  obtain ⟨bR, H2⟩ : ∃ bR, Hid (bB + 1 = bR) := ⟨_, rfl⟩
  have hleR : w.heap.size ≤ bR := by have := H1.out; have := H2.out; omega
  have nB : bB ≠ bR := by have := H2.out; omega
  rw [H1.out, H2.out] at hK ⊢
  refine wp_region_vals 12 (by kernel_rfl) (by kernel_rfl) (by rfl) (valRead a bB) (fun L => Kp [(bR, if L 9 then numA a else Q4 0 0 0 0, 131), (bB, B32 (bdig a), 22)] w) hK.drew ?_ ?_
  · intro L ac wc i o hF hLi ho hd K hK
    rcases i with _ | _ | _ | _ | _ | _ | _ | _ | _ | _ | i
    · have ho' := ho
      obtain rfl := Option.some.inj ho
      have f1 : ac.tmps.getD 1 undef = .pointer (some ⟨bB, 0, none⟩) := slotv hF 0 hLi 1 (by kernel_rfl)
      refine step_do ho' (wanted_free rfl) ?_
      unfold Oper.wp
      go_simp
      exact hK _ _ (.inr rfl) hF.j
    · have ho' := ho
      obtain rfl := Option.some.inj ho
      have f3 : ac.tmps.getD 3 undef = .slice (some ⟨bB, 0, none⟩) 8 32 := valv hF hd 0 rfl rfl (by kernel_rfl)
      refine step_do ho' (wanted_free rfl) ?_
      unfold Oper.wp
      go_simp
      refine (word_at a 0 bB 32 _ (by decide) hF.j.h2).mono ?_
      rintro e w' ⟨rfl, hB⟩
      exact hK _ _ (.inr rfl) (hF.j.below hB)
    · have ho' := ho
      obtain rfl := Option.some.inj ho
      have f1 : ac.tmps.getD 1 undef = .pointer (some ⟨bB, 0, none⟩) := slotv hF 2 hLi 1 (by kernel_rfl)
      refine step_do ho' (wanted_free rfl) ?_
      unfold Oper.wp
      go_simp
      exact hK _ _ (.inr rfl) hF.j
    · have ho' := ho
      obtain rfl := Option.some.inj ho
      have f5 : ac.tmps.getD 5 undef = .slice (some ⟨bB, 8, none⟩) 8 24 := valv hF hd 2 rfl rfl (by kernel_rfl)
      refine step_do ho' (wanted_free rfl) ?_
      unfold Oper.wp
      go_simp
      refine (word_at a 1 bB 24 _ (by decide) hF.j.h2).mono ?_
      rintro e w' ⟨rfl, hB⟩
      exact hK _ _ (.inr rfl) (hF.j.below hB)
    · have ho' := ho
      obtain rfl := Option.some.inj ho
      have f1 : ac.tmps.getD 1 undef = .pointer (some ⟨bB, 0, none⟩) := slotv hF 4 hLi 1 (by kernel_rfl)
      refine step_do ho' (wanted_free rfl) ?_
      unfold Oper.wp
      go_simp
      exact hK _ _ (.inr rfl) hF.j
    · have ho' := ho
      obtain rfl := Option.some.inj ho
      have f7 : ac.tmps.getD 7 undef = .slice (some ⟨bB, 16, none⟩) 8 16 := valv hF hd 4 rfl rfl (by kernel_rfl)
      refine step_do ho' (wanted_free rfl) ?_
      unfold Oper.wp
      go_simp
      refine (word_at a 2 bB 16 _ (by decide) hF.j.h2).mono ?_
      rintro e w' ⟨rfl, hB⟩
      exact hK _ _ (.inr rfl) (hF.j.below hB)
    · have ho' := ho
      obtain rfl := Option.some.inj ho
      have f1 : ac.tmps.getD 1 undef = .pointer (some ⟨bB, 0, none⟩) := slotv hF 6 hLi 1 (by kernel_rfl)
      refine step_do ho' (wanted_free rfl) ?_
      unfold Oper.wp
      go_simp
      exact hK _ _ (.inr rfl) hF.j
    · have ho' := ho
      obtain rfl := Option.some.inj ho
      have f9 : ac.tmps.getD 9 undef = .slice (some ⟨bB, 24, none⟩) 8 8 := valv hF hd 6 rfl rfl (by kernel_rfl)
      refine step_do ho' (wanted_free rfl) ?_
      unfold Oper.wp
      go_simp
      refine (word_at a 3 bB 8 _ (by decide) hF.j.h2).mono ?_
      rintro e w' ⟨rfl, hB⟩
      exact hK _ _ (.inr rfl) (hF.j.below hB)
    · have ho' := ho
      obtain rfl := Option.some.inj ho
      have f4 : ac.tmps.getD 4 undef = .int .u64 (dig a 0 : Int) := valv hF hd 1 rfl rfl (by kernel_rfl)
      have f6 : ac.tmps.getD 6 undef = .int .u64 (dig a 1 : Int) := valv hF hd 3 rfl rfl (by kernel_rfl)
      have f8 : ac.tmps.getD 8 undef = .int .u64 (dig a 2 : Int) := valv hF hd 5 rfl rfl (by kernel_rfl)
      have f10 : ac.tmps.getD 10 undef = .int .u64 (dig a 3 : Int) := valv hF hd 7 rfl rfl (by kernel_rfl)
      refine step_do ho' (wanted_free rfl) ?_
      have g4 := getq f4
      have g6 := getq f6
      have g8 := getq f8
      have g10 := getq f10
      unfold Oper.wp
      go_simp
      exact hK _ _ (.inr rfl) hF.j
    · have ho' := ho
      obtain rfl := Option.some.inj ho
      have f2 : ac.tmps.getD 2 undef = .pointer (some ⟨bR, 0, none⟩) := slotv hF 9 hLi 2 (by kernel_rfl)
      have f11 : ac.tmps.getD 11 undef = .agg (numA a) := valv hF hd 8 rfl rfl (by kernel_rfl)
      refine step_do ho' (wanted_free rfl) ?_
      have hj := hF.j
      rw [hLi] at hj
      refine wp_store_own 131 (.tmp 2) (.tmp 11) rfl bR (numA a) f2 f11 hj.h1 rfl infoFN (numA_one _) rfl ?_
      exact hK undef _ (.inl rfl) (Kp.set hj (by simp; omega) hleR rfl)
    · cases ho
  · intro L wq hL hKq
    rw [hL 9 (by decide)] at hKq
    simp only [putAll, valRead, Act.put, List.setIfInBounds_toArray, List.set_cons_succ, List.set_cons_zero]
    go_wp2_with fail
    exact bodyPost_ret (results_own Tryz.results108 _ _ bR (numA a) _ (by rfl) hKq.h1 Tryz.underlying131 rfl infoFN) rfl ⟨rfl, hKq.2⟩
end Go.Proofs.YtgibllaifnnfkaaGreatDoor
namespace Go.Proofs.YtgibllaifnnfkaaGreatDoor
open Go.RowKit
def fput8 (w : World) (b o v : Nat) : World :=
  (((((((w.setCell ⟨b, o, none⟩ (.int .u8 (bdig v 0 : Int))).setCell ⟨b, o + 1, none⟩ (.int .u8 (bdig v 1 : Int))).setCell ⟨b, o + 2, none⟩ (.int .u8 (bdig v 2 : Int))).setCell ⟨b, o + 3, none⟩ (.int .u8 (bdig v 3 : Int))).setCell ⟨b, o + 4, none⟩ (.int .u8 (bdig v 4 : Int))).setCell ⟨b, o + 5, none⟩ (.int .u8 (bdig v 5 : Int))).setCell ⟨b, o + 6, none⟩ (.int .u8 (bdig v 6 : Int))).setCell ⟨b, o + 7, none⟩ (.int .u8 (bdig v 7 : Int))
def upd8 (f : Nat → Nat) (o v : Nat) : Nat → Nat := upd (upd (upd (upd (upd (upd (upd (upd f o (bdig v 0)) (o + 1) (bdig v 1)) (o + 2) (bdig v 2)) (o + 3) (bdig v 3)) (o + 4) (bdig v 4)) (o + 5) (bdig v 5)) (o + 6) (bdig v 6)) (o + 7) (bdig v 7)
theorem kp_fput8 {l : List (Nat × Array Value × TypeId)} {w0 w : World} {b o v : Nat} {f : Nat → Nat} {t : TypeId} (h : Kp ((b, B32 f, t) :: l) w0 w) (hl : ∀ p ∈ l, p.1 ≠ b) (hb : w0.heap.size ≤ b) (ho : o + 7 < 32) : Kp ((b, B32 (upd8 f o v), t) :: l) w0 (fput8 w b o v) := by
  have step : ∀ {w : World} {g : Nat → Nat} (i x : Nat), i < 32 → Kp ((b, B32 g, t) :: l) w0 w → Kp ((b, B32 (upd g i x), t) :: l) w0 (w.setCell ⟨b, i, none⟩ (.int .u8 (x : Int))) := fun {w g} i x hi hk => by
    have := Kp.setCell (i := i) (v := .int .u8 (x : Int)) hk hl hb
    rw [B32_set g i x hi] at this
    exact this
  exact step _ _ (by omega) (step _ _ (by omega) (step _ _ (by omega) (step _ _ (by omega) (step _ _ (by omega) (step _ _ (by omega) (step _ _ (by omega) (step _ _ (by omega) h)))))))
set_option maxRecDepth 100000 in
set_option maxHeartbeats 8000000 in
theorem putWord_any (b o cap v : Nat) (f : Nat → Nat) (w : World) (ho : o + 7 < 32) {t : TypeId} (hO : Own w b (B32 f) t) :
    Calls Tryz.prog 125 #[.slice (some ⟨b, o, none⟩) 8 cap, .int .u64 (v : Int)] w fun r w' => r = .returned (.tuple #[]) ∧ w' = fput8 w b o v := by
  have c0 := hO.cell (B32_at f o (by omega))
  have c1 := hO.cell (B32_at f (o + 1) (by omega))
  have c2 := hO.cell (B32_at f (o + 2) (by omega))
  have c3 := hO.cell (B32_at f (o + 3) (by omega))
  have c4 := hO.cell (B32_at f (o + 4) (by omega))
  have c5 := hO.cell (B32_at f (o + 5) (by omega))
  have c6 := hO.cell (B32_at f (o + 6) (by omega))
  have c7 := hO.cell (B32_at f (o + 7) (by omega))
  have z0 := hO.frozen o
  have z1 := hO.frozen (o + 1)
  have z2 := hO.frozen (o + 2)
  have z3 := hO.frozen (o + 3)
  have z4 := hO.frozen (o + 4)
  have z5 := hO.frozen (o + 5)
  have z6 := hO.frozen (o + 6)
  have z7 := hO.frozen (o + 7)
  go_enter Tryz.func125, Tryz.ntmps125
  go_wp2_with fail
  refine bodyPost_end (results_none Tryz.results125 _ _ _) rfl ⟨rfl, ?_⟩
  have b0 : ((bdig v 0 : Nat) : Int) = (v : Int) % 256 := by unfold bdig; rw [Nat.pow_zero, Nat.div_one]; omega
  have b1 : ((bdig v 1 : Nat) : Int) = (v : Int) / 256 % 256 := by unfold bdig; rw [show (256 : Nat) ^ 1 = 256 from rfl]; omega
  have b2 : ((bdig v 2 : Nat) : Int) = (v : Int) / 65536 % 256 := by unfold bdig; rw [show (256 : Nat) ^ 2 = 65536 from rfl]; omega
  have b3 : ((bdig v 3 : Nat) : Int) = (v : Int) / 16777216 % 256 := by unfold bdig; rw [show (256 : Nat) ^ 3 = 16777216 from rfl]; omega
  have b4 : ((bdig v 4 : Nat) : Int) = (v : Int) / 4294967296 % 256 := by unfold bdig; rw [show (256 : Nat) ^ 4 = 4294967296 from rfl]; omega
  have b5 : ((bdig v 5 : Nat) : Int) = (v : Int) / 1099511627776 % 256 := by unfold bdig; rw [show (256 : Nat) ^ 5 = 1099511627776 from rfl]; omega
  have b6 : ((bdig v 6 : Nat) : Int) = (v : Int) / 281474976710656 % 256 := by unfold bdig; rw [show (256 : Nat) ^ 6 = 281474976710656 from rfl]; omega
  have b7 : ((bdig v 7 : Nat) : Int) = (v : Int) / 72057594037927936 % 256 := by unfold bdig; rw [show (256 : Nat) ^ 7 = 72057594037927936 from rfl]; omega
  unfold fput8
  rw [b0, b1, b2, b3, b4, b5, b6, b7]
theorem upd8_in (f : Nat → Nat) (o v j : Nat) (hj : j < 8) : upd8 f o v (o + j) = bdig v j := by
  unfold upd8
  have : j = 0 ∨ j = 1 ∨ j = 2 ∨ j = 3 ∨ j = 4 ∨ j = 5 ∨ j = 6 ∨ j = 7 := by omega
  rcases this with rfl | rfl | rfl | rfl | rfl | rfl | rfl | rfl <;> simp [upd]
theorem upd8_out (f : Nat → Nat) (o v i : Nat) (hi : i < o ∨ o + 8 ≤ i) : upd8 f o v i = f i := by
  unfold upd8
  rw [upd_other _ _ _ _ (by omega), upd_other _ _ _ _ (by omega), upd_other _ _ _ _ (by omega), upd_other _ _ _ _ (by omega), upd_other _ _ _ _ (by omega), upd_other _ _ _ _ (by omega), upd_other _ _ _ _ (by omega), upd_other _ _ _ _ (by omega)]
theorem bdig_dig (m k j : Nat) (hj : j < 8) : bdig (dig m k) j = bdig m (8 * k + j) := by
  have := byte_of m (8 * k + j)
  rw [show (8 * k + j) / 8 = k by omega, show (8 * k + j) % 8 = j by omega] at this
  rw [← this]
  unfold bdig
  rw [show (256 : Nat) ^ j = 2 ^ (8 * j) by rw [Nat.pow_mul]]
theorem all32 (m : Nat) : B32 (upd8 (upd8 (upd8 (upd8 (fun _ => 0) 0 (dig m 0)) 8 (dig m 1)) 16 (dig m 2)) 24 (dig m 3)) = B32 (bdig m) := by
  refine B32_ext fun i hi => ?_
  have h : i < 8 ∨ (8 ≤ i ∧ i < 16) ∨ (16 ≤ i ∧ i < 24) ∨ 24 ≤ i := by omega
  rcases h with h | h | h | h
  · rw [upd8_out _ _ _ _ (by omega), upd8_out _ _ _ _ (by omega), upd8_out _ _ _ _ (by omega)]
    have := upd8_in (fun _ => 0) 0 (dig m 0) i h
    rw [Nat.zero_add] at this
    rw [this, bdig_dig _ _ _ h, Nat.mul_zero, Nat.zero_add]
  · rw [upd8_out _ _ _ _ (by omega), upd8_out _ _ _ _ (by omega)]
    obtain ⟨j, rfl⟩ := Nat.exists_eq_add_of_le h.1
    rw [upd8_in _ _ _ _ (by omega), bdig_dig _ _ _ (by omega)]
  · rw [upd8_out _ _ _ _ (by omega)]
    obtain ⟨j, rfl⟩ := Nat.exists_eq_add_of_le h.1
    rw [upd8_in _ _ _ _ (by omega), bdig_dig _ _ _ (by omega)]
  · obtain ⟨j, rfl⟩ := Nat.exists_eq_add_of_le h
    rw [upd8_in _ _ _ _ (by omega), bdig_dig _ _ _ (by omega)]
theorem dig_at (m k : Nat) (hk : k < 4) : (numA m)[k]? = some (.int .u64 (dig m k : Int)) := numA_at m k hk
def valWr0 (bO bN d : Nat) : Nat → Value
  | 0 => .slice (some ⟨bO, 0, none⟩) 8 32
  | 1 => .pointer (some ⟨bN, 0, none⟩)
  | 2 => .int .u64 (d : Int)
  | 3 => .tuple #[]
  | _ => undef
def valWr1 (bO bN d : Nat) : Nat → Value
  | 0 => .slice (some ⟨bO, 8, none⟩) 8 24
  | 1 => .pointer (some ⟨bN, 1, none⟩)
  | 2 => .int .u64 (d : Int)
  | 3 => .tuple #[]
  | _ => undef
def valWr2 (bO bN d : Nat) : Nat → Value
  | 0 => .slice (some ⟨bO, 16, none⟩) 8 16
  | 1 => .pointer (some ⟨bN, 2, none⟩)
  | 2 => .int .u64 (d : Int)
  | 3 => .tuple #[]
  | _ => undef
def valWr3 (bO bN d : Nat) : Nat → Value
  | 0 => .slice (some ⟨bO, 24, none⟩) 8 8
  | 1 => .pointer (some ⟨bN, 3, none⟩)
  | 2 => .int .u64 (d : Int)
  | 3 => .tuple #[]
  | _ => undef
set_option maxRecDepth 100000 in
set_option maxHeartbeats 8000000 in
theorem write_any (n : Nat) (hn : n < R256) (w : World) (hT : TP w) :
    Calls Tryz.prog 111 #[.agg (numA n)] w fun r w' => r = .returned (.agg (B32 (bdig (n % pp)))) ∧ Below w.heap.size w w' := by
  have hz := (zero_of_info zeroB32).1
  obtain ⟨m, Hm⟩ : ∃ m, Hid (n % pp = m) := ⟨_, rfl⟩
  rw [Hm.out]
  go_enter Tryz.func111, Tryz.ntmps111
  go_upto_region 1 with fail
  have hK := ((Kp.nil w).alloc (numA n) 131).alloc (B32 fun _ => 0) 22
  rw [World.size_alloc] at hK
  generalize (w.alloc (.cells (numA n) 131)).alloc (.cells (B32 fun _ => 0) 22) = W at *
  obtain ⟨bN, H1⟩ : ∃ bN, Hid (w.heap.size = bN) := ⟨_, rfl⟩
  obtain ⟨bR, H2⟩ : ∃ bR, Hid (bN + 1 = bR) := ⟨_, rfl⟩
  have hleN : w.heap.size ≤ bN := Nat.le_of_eq H1.out
  have hleR : w.heap.size ≤ bR := by have := H1.out; have := H2.out; omega
  have nR : bR ≠ bN := by have := H2.out; omega
  rw [H1.out, H2.out] at hK ⊢
  have hK : Kp [(bN, numA n, 131), (bR, B32 fun _ => 0, 22)] w W := hK.sub (by simp)
  go_wp2_with (refine wpList_load_own (by rfl) 131 (.tmp 1) (by rfl) bN (by rfl) (numA n) _ hK.h1 Tryz.underlying131 (by rfl) infoFN ?_)
  refine (least_any n hn W (hT.kp hK)).mono ?_
  rintro r W1 ⟨rfl, bw⟩
  rw [Hm.out]
  have hK := hK.below bw
  go_upto_region 2 with (refine wpList_store_own (by rfl) 131 (.tmp 1) (.tmp 5) (by rfl) bN 0 (numA m) (by rfl) (by rfl) hK.h1 (Nat.le_refl _) infoFN (numA_one _) (by rfl) ?_)
  have hK := Kp.set (A' := numA m) hK (by simp; omega) hleN rfl
  generalize W1.setCells bN 0 (numA m).toList = W2 at *
  have lN := hK.h1.lt
  have lR := hK.h2.lt
  go_upto_region 3 with fail
  have hK := hK.alloc (B32 fun _ => 0) 22
  generalize W2.alloc (.cells (B32 fun _ => 0) 22) = W3 at *
  obtain ⟨bO, H3⟩ : ∃ bO, Hid (W2.heap.size = bO) := ⟨_, rfl⟩
  rw [H3.out] at hK lN lR ⊢
  have hleO : w.heap.size ≤ bO := by omega
  have nN : bN ≠ bO := by omega
  have nO : bR ≠ bO := by omega
  clear lN lR
  refine wp_region_vals 23 (by kernel_rfl) (by kernel_rfl) (by rfl) (valWr0 bO bN (dig m 0)) (fun L => Kp [(bO, B32 (if L 3 then (upd8 (fun _ => 0) 0 (dig m 0)) else (fun _ => 0)), 22), (bN, numA m, 131), (bR, B32 fun _ => 0, 22)] w) hK.drew ?_ ?_
  · intro L ac wc i o hF hLi ho hd K hK
    rcases i with _ | _ | _ | _ | i
    · have ho' := ho
      obtain rfl := Option.some.inj ho
      have f3 : ac.tmps.getD 3 undef = .pointer (some ⟨bO, 0, none⟩) := slotv hF 0 hLi 3 (by kernel_rfl)
      refine step_do ho' (wanted_free rfl) ?_
      unfold Oper.wp
      go_simp
      exact hK _ _ (.inr rfl) hF.j
    · have ho' := ho
      obtain rfl := Option.some.inj ho
      have f1 : ac.tmps.getD 1 undef = .pointer (some ⟨bN, 0, none⟩) := slotv hF 1 hLi 1 (by kernel_rfl)
      refine step_do ho' (wanted_free rfl) ?_
      unfold Oper.wp
      go_simp
      exact hK _ _ (.inr rfl) hF.j
    · have ho' := ho
      obtain rfl := Option.some.inj ho
      have f7 : ac.tmps.getD 7 undef = .pointer (some ⟨bN, 0, none⟩) := valv hF hd 1 rfl rfl (by kernel_rfl)
      refine step_do ho' (wanted_free rfl) ?_
      have cN := hF.j.h2.cell (dig_at m 0 (by decide))
      unfold Oper.wp
      go_simp
      exact hK _ _ (.inr rfl) hF.j
    · have ho' := ho
      obtain rfl := Option.some.inj ho
      have f6 : ac.tmps.getD 6 undef = .slice (some ⟨bO, 0, none⟩) 8 32 := valv hF hd 0 rfl rfl (by kernel_rfl)
      have f8 : ac.tmps.getD 8 undef = .int .u64 (dig m 0 : Int) := valv hF hd 2 rfl rfl (by kernel_rfl)
      refine step_do ho' (wanted_free rfl) ?_
      have hj := hF.j
      rw [hLi] at hj
      unfold Oper.wp
      go_simp
      refine (putWord_any bO 0 32 (dig m 0) (fun _ => 0) _ (by decide) hj.h1).mono ?_
      rintro e w' ⟨rfl, rfl⟩
      exact hK _ _ (.inr rfl) (kp_fput8 hj (by simp; omega) hleO (by decide))
    · cases ho
  · intro L V0 hL hK
    rw [hL 3 (by decide)] at hK
    simp only [putAll, valWr0, Act.put, List.setIfInBounds_toArray, List.set_cons_succ, List.set_cons_zero]
    go_upto_region 4 with fail
    refine wp_region_vals 23 (by kernel_rfl) (by kernel_rfl) (by rfl) (valWr1 bO bN (dig m 1)) (fun L => Kp [(bO, B32 (if L 3 then (upd8 (upd8 (fun _ => 0) 0 (dig m 0)) 8 (dig m 1)) else (upd8 (fun _ => 0) 0 (dig m 0))), 22), (bN, numA m, 131), (bR, B32 fun _ => 0, 22)] w) hK.drew ?_ ?_
    · intro L ac wc i o hF hLi ho hd K hK
      rcases i with _ | _ | _ | _ | i
      · have ho' := ho
        obtain rfl := Option.some.inj ho
        have f3 : ac.tmps.getD 3 undef = .pointer (some ⟨bO, 0, none⟩) := slotv hF 0 hLi 3 (by kernel_rfl)
        refine step_do ho' (wanted_free rfl) ?_
        unfold Oper.wp
        go_simp
        exact hK _ _ (.inr rfl) hF.j
      · have ho' := ho
        obtain rfl := Option.some.inj ho
        have f1 : ac.tmps.getD 1 undef = .pointer (some ⟨bN, 0, none⟩) := slotv hF 1 hLi 1 (by kernel_rfl)
        refine step_do ho' (wanted_free rfl) ?_
        unfold Oper.wp
        go_simp
        exact hK _ _ (.inr rfl) hF.j
      · have ho' := ho
        obtain rfl := Option.some.inj ho
        have f11 : ac.tmps.getD 11 undef = .pointer (some ⟨bN, 1, none⟩) := valv hF hd 1 rfl rfl (by kernel_rfl)
        refine step_do ho' (wanted_free rfl) ?_
        have cN := hF.j.h2.cell (dig_at m 1 (by decide))
        unfold Oper.wp
        go_simp
        exact hK _ _ (.inr rfl) hF.j
      · have ho' := ho
        obtain rfl := Option.some.inj ho
        have f10 : ac.tmps.getD 10 undef = .slice (some ⟨bO, 8, none⟩) 8 24 := valv hF hd 0 rfl rfl (by kernel_rfl)
        have f12 : ac.tmps.getD 12 undef = .int .u64 (dig m 1 : Int) := valv hF hd 2 rfl rfl (by kernel_rfl)
        refine step_do ho' (wanted_free rfl) ?_
        have hj := hF.j
        rw [hLi] at hj
        unfold Oper.wp
        go_simp
        refine (putWord_any bO 8 24 (dig m 1) (upd8 (fun _ => 0) 0 (dig m 0)) _ (by decide) hj.h1).mono ?_
        rintro e w' ⟨rfl, rfl⟩
        exact hK _ _ (.inr rfl) (kp_fput8 hj (by simp; omega) hleO (by decide))
      · cases ho
    · intro L V1 hL hK
      rw [hL 3 (by decide)] at hK
      simp only [putAll, valWr1, Act.put, List.setIfInBounds_toArray, List.set_cons_succ, List.set_cons_zero]
      go_upto_region 5 with fail
      refine wp_region_vals 23 (by kernel_rfl) (by kernel_rfl) (by rfl) (valWr2 bO bN (dig m 2)) (fun L => Kp [(bO, B32 (if L 3 then (upd8 (upd8 (upd8 (fun _ => 0) 0 (dig m 0)) 8 (dig m 1)) 16 (dig m 2)) else (upd8 (upd8 (fun _ => 0) 0 (dig m 0)) 8 (dig m 1))), 22), (bN, numA m, 131), (bR, B32 fun _ => 0, 22)] w) hK.drew ?_ ?_
      · intro L ac wc i o hF hLi ho hd K hK
        rcases i with _ | _ | _ | _ | i
        · have ho' := ho
          obtain rfl := Option.some.inj ho
          have f3 : ac.tmps.getD 3 undef = .pointer (some ⟨bO, 0, none⟩) := slotv hF 0 hLi 3 (by kernel_rfl)
          refine step_do ho' (wanted_free rfl) ?_
          unfold Oper.wp
          go_simp
          exact hK _ _ (.inr rfl) hF.j
        · have ho' := ho
          obtain rfl := Option.some.inj ho
          have f1 : ac.tmps.getD 1 undef = .pointer (some ⟨bN, 0, none⟩) := slotv hF 1 hLi 1 (by kernel_rfl)
          refine step_do ho' (wanted_free rfl) ?_
          unfold Oper.wp
          go_simp
          exact hK _ _ (.inr rfl) hF.j
        · have ho' := ho
          obtain rfl := Option.some.inj ho
          have f15 : ac.tmps.getD 15 undef = .pointer (some ⟨bN, 2, none⟩) := valv hF hd 1 rfl rfl (by kernel_rfl)
          refine step_do ho' (wanted_free rfl) ?_
          have cN := hF.j.h2.cell (dig_at m 2 (by decide))
          unfold Oper.wp
          go_simp
          exact hK _ _ (.inr rfl) hF.j
        · have ho' := ho
          obtain rfl := Option.some.inj ho
          have f14 : ac.tmps.getD 14 undef = .slice (some ⟨bO, 16, none⟩) 8 16 := valv hF hd 0 rfl rfl (by kernel_rfl)
          have f16 : ac.tmps.getD 16 undef = .int .u64 (dig m 2 : Int) := valv hF hd 2 rfl rfl (by kernel_rfl)
          refine step_do ho' (wanted_free rfl) ?_
          have hj := hF.j
          rw [hLi] at hj
          unfold Oper.wp
          go_simp
          refine (putWord_any bO 16 16 (dig m 2) (upd8 (upd8 (fun _ => 0) 0 (dig m 0)) 8 (dig m 1)) _ (by decide) hj.h1).mono ?_
          rintro e w' ⟨rfl, rfl⟩
          exact hK _ _ (.inr rfl) (kp_fput8 hj (by simp; omega) hleO (by decide))
        · cases ho
      · intro L V2 hL hK
        rw [hL 3 (by decide)] at hK
        simp only [putAll, valWr2, Act.put, List.setIfInBounds_toArray, List.set_cons_succ, List.set_cons_zero]
        go_upto_region 6 with fail
        refine wp_region_vals 23 (by kernel_rfl) (by kernel_rfl) (by rfl) (valWr3 bO bN (dig m 3)) (fun L => Kp [(bO, B32 (if L 3 then (upd8 (upd8 (upd8 (upd8 (fun _ => 0) 0 (dig m 0)) 8 (dig m 1)) 16 (dig m 2)) 24 (dig m 3)) else (upd8 (upd8 (upd8 (fun _ => 0) 0 (dig m 0)) 8 (dig m 1)) 16 (dig m 2))), 22), (bN, numA m, 131), (bR, B32 fun _ => 0, 22)] w) hK.drew ?_ ?_
        · intro L ac wc i o hF hLi ho hd K hK
          rcases i with _ | _ | _ | _ | i
          · have ho' := ho
            obtain rfl := Option.some.inj ho
            have f3 : ac.tmps.getD 3 undef = .pointer (some ⟨bO, 0, none⟩) := slotv hF 0 hLi 3 (by kernel_rfl)
            refine step_do ho' (wanted_free rfl) ?_
            unfold Oper.wp
            go_simp
            exact hK _ _ (.inr rfl) hF.j
          · have ho' := ho
            obtain rfl := Option.some.inj ho
            have f1 : ac.tmps.getD 1 undef = .pointer (some ⟨bN, 0, none⟩) := slotv hF 1 hLi 1 (by kernel_rfl)
            refine step_do ho' (wanted_free rfl) ?_
            unfold Oper.wp
            go_simp
            exact hK _ _ (.inr rfl) hF.j
          · have ho' := ho
            obtain rfl := Option.some.inj ho
            have f19 : ac.tmps.getD 19 undef = .pointer (some ⟨bN, 3, none⟩) := valv hF hd 1 rfl rfl (by kernel_rfl)
            refine step_do ho' (wanted_free rfl) ?_
            have cN := hF.j.h2.cell (dig_at m 3 (by decide))
            unfold Oper.wp
            go_simp
            exact hK _ _ (.inr rfl) hF.j
          · have ho' := ho
            obtain rfl := Option.some.inj ho
            have f18 : ac.tmps.getD 18 undef = .slice (some ⟨bO, 24, none⟩) 8 8 := valv hF hd 0 rfl rfl (by kernel_rfl)
            have f20 : ac.tmps.getD 20 undef = .int .u64 (dig m 3 : Int) := valv hF hd 2 rfl rfl (by kernel_rfl)
            refine step_do ho' (wanted_free rfl) ?_
            have hj := hF.j
            rw [hLi] at hj
            unfold Oper.wp
            go_simp
            refine (putWord_any bO 24 8 (dig m 3) (upd8 (upd8 (upd8 (fun _ => 0) 0 (dig m 0)) 8 (dig m 1)) 16 (dig m 2)) _ (by decide) hj.h1).mono ?_
            rintro e w' ⟨rfl, rfl⟩
            exact hK _ _ (.inr rfl) (kp_fput8 hj (by simp; omega) hleO (by decide))
          · cases ho
        · intro L V3 hL hK
          rw [hL 3 (by decide)] at hK
          simp only [putAll, valWr3, Act.put, List.setIfInBounds_toArray, List.set_cons_succ, List.set_cons_zero]
          go_upto_region 7 with fail
          have hK : Kp [(bO, B32 (upd8 (upd8 (upd8 (upd8 (fun _ => 0) 0 (dig m 0)) 8 (dig m 1)) 16 (dig m 2)) 24 (dig m 3)), 22), (bN, numA m, 131), (bR, B32 fun _ => 0, 22)] w V3 := hK
          rw [all32] at hK
          go_wp2_with (first
            | refine wpList_load_own (by rfl) 22 (.tmp 3) (by rfl) bO (by rfl) (B32 (bdig m)) _ hK.h1 Tryz.underlying22 (by rfl) (B32_info _) ?_
            | refine wpList_store_own (by rfl) 22 (.tmp 2) (.tmp 22) (by rfl) bR 0 (B32 (bdig m)) (by rfl) (by rfl) hK.h3 (B32_le _ _) (B32_info _) (B32_one _) (by rfl) ?_)
          exact bodyPost_ret (results_own Tryz.results111 _ _ bR (B32 (bdig m)) _ (by rfl) (own_setCells hK.h3 (B32_sizes _ _)) Tryz.underlying22 rfl (B32_info _)) rfl ⟨rfl, Below.setCells _ _ _ _ hleR hK.2⟩
end Go.Proofs.YtgibllaifnnfkaaGreatDoor
namespace Go.Proofs.YtgibllaifnnfkaaGreatDoor
open Go.RowKit
structure Fld (T : World → Prop) : Prop where
  keep : ∀ w w', T w → Below w.heap.size w w' → T w'
  check : ∀ a, a < R256 → ∀ w, T w → Calls Tryz.prog 96 #[.agg (B32 (bdig a))] w fun x w' => x = .returned (.bool (decide (a < pp))) ∧ Below w.heap.size w w'
  mod : ∀ a, a < R256 → ∀ w, T w → Calls Tryz.prog 117 #[.agg (B32 (bdig a))] w fun x w' => x = .returned (.agg (B32 (bdig (a % pp)))) ∧ Below w.heap.size w w'
  add : ∀ a b, a < R256 → b < R256 → ∀ w, T w → Calls Tryz.prog 99 #[.agg (B32 (bdig a)), .agg (B32 (bdig b))] w fun x w' => x = .returned (.agg (B32 (bdig ((a + b) % pp)))) ∧ Below w.heap.size w w'
  sub : ∀ a b, a < R256 → b < R256 → ∀ w, T w → Calls Tryz.prog 100 #[.agg (B32 (bdig a)), .agg (B32 (bdig b))] w fun x w' => x = .returned (.agg (B32 (bdig ((a % pp + pp - b % pp) % pp)))) ∧ Below w.heap.size w w'
  mul : ∀ a b, a < R256 → b < R256 → ∀ w, T w → Calls Tryz.prog 87 #[.agg (B32 (bdig a)), .agg (B32 (bdig b))] w fun x w' => x = .returned (.agg (B32 (bdig (a * b % pp)))) ∧ Below w.heap.size w w'
theorem Fld.mulA {T : World → Prop} (F : Fld T) {a b c : Nat} (ha : a < R256) (hb : b < R256) (hc : a * b % pp = c) (w : World) (hT : T w) : Calls Tryz.prog 87 #[.agg (B32 (bdig a)), .agg (B32 (bdig b))] w fun x w' => x = .returned (.agg (B32 (bdig c))) ∧ Below w.heap.size w w' := by
  rw [← hc]; exact F.mul a b ha hb w hT
theorem Fld.addA {T : World → Prop} (F : Fld T) {a b c : Nat} (ha : a < R256) (hb : b < R256) (hc : (a + b) % pp = c) (w : World) (hT : T w) : Calls Tryz.prog 99 #[.agg (B32 (bdig a)), .agg (B32 (bdig b))] w fun x w' => x = .returned (.agg (B32 (bdig c))) ∧ Below w.heap.size w w' := by
  rw [← hc]; exact F.add a b ha hb w hT
theorem Fld.subA {T : World → Prop} (F : Fld T) {a b c : Nat} (ha : a < R256) (hb : b < R256) (hc : (a % pp + pp - b % pp) % pp = c) (w : World) (hT : T w) : Calls Tryz.prog 100 #[.agg (B32 (bdig a)), .agg (B32 (bdig b))] w fun x w' => x = .returned (.agg (B32 (bdig c))) ∧ Below w.heap.size w w' := by
  rw [← hc]; exact F.sub a b ha hb w hT
end Go.Proofs.YtgibllaifnnfkaaGreatDoor
namespace Go.Proofs.YtgibllaifnnfkaaGreatDoor
open Go.RowKit
set_option maxRecDepth 100000 in
set_option maxHeartbeats 4000000 in
theorem pmod_any (a : Nat) (ha : a < R256) (w : World) (hT : TP w) : Calls Tryz.prog 117 #[.agg (B32 (bdig a))] w fun x w' => x = .returned (.agg (B32 (bdig (a % pp)))) ∧ Below w.heap.size w w' := by
  have hz := (zero_of_info zeroB32).1
  go_enter Tryz.func117, Tryz.ntmps117
  go_upto_region 1 with fail
  have hK := ((Kp.nil w).alloc (B32 (bdig a)) 22).alloc (B32 fun _ => 0) 22
  rw [World.size_alloc] at hK
  generalize (w.alloc (.cells (B32 (bdig a)) 22)).alloc (.cells (B32 fun _ => 0) 22) = W at *
  obtain ⟨bA, H1⟩ : ∃ bA, Hid (w.heap.size = bA) := ⟨_, rfl⟩
  obtain ⟨bR, H2⟩ : ∃ bR, Hid (bA + 1 = bR) := ⟨_, rfl⟩
  have hleR : w.heap.size ≤ bR := by have := H1.out; have := H2.out; omega
  rw [H1.out, H2.out] at hK ⊢
  go_wp2_with (refine wpList_load_own (by rfl) 22 (.tmp 1) (by rfl) bA (by rfl) (B32 (bdig a)) _ hK.h2 Tryz.underlying22 (by rfl) (B32_info _) ?_)
  refine (read_any a W).mono ?_
  rintro r W1 ⟨rfl, bw⟩
  have hK := hK.below bw
  go_wp2_with fail
  refine (write_any a ha W1 (hT.kp hK)).mono ?_
  rintro r W2 ⟨rfl, bw⟩
  have hK := hK.below bw
  go_wp2_with (refine wpList_store_own (by rfl) 22 (.tmp 2) (.tmp 5) (by rfl) bR 0 (B32 (bdig (a % pp))) (by rfl) (by rfl) hK.h1 (B32_le _ _) (B32_info _) (B32_one _) (by rfl) ?_)
  exact bodyPost_ret (results_own Tryz.results117 _ _ bR (B32 (bdig (a % pp))) _ (by rfl) (own_setCells hK.h1 (B32_sizes _ _)) Tryz.underlying22 rfl (B32_info _)) rfl ⟨rfl, Below.setCells _ _ _ _ hleR hK.2⟩
set_option maxRecDepth 100000 in
set_option maxHeartbeats 4000000 in
theorem pcheck_any (a : Nat) (ha : a < R256) (w : World) (hT : TP w) : Calls Tryz.prog 96 #[.agg (B32 (bdig a))] w fun x w' => x = .returned (.bool (decide (a < pp))) ∧ Below w.heap.size w w' := by
  have hz := (zero_of_info zeroB32).1
  have Hd : Hid (decide (a % pp = a) = decide (a < pp)) := by
    show _ = _
    rw [decide_eq_decide]
    exact ⟨fun h => h ▸ Nat.mod_lt _ pp_pos, fun h => Nat.mod_eq_of_lt h⟩
  go_enter Tryz.func96, Tryz.ntmps96
  go_upto_region 1 with fail
  have hK := (Kp.nil w).alloc (B32 (bdig a)) 22
  generalize w.alloc (.cells (B32 (bdig a)) 22) = W at *
  obtain ⟨bA, H1⟩ : ∃ bA, Hid (w.heap.size = bA) := ⟨_, rfl⟩
  rw [H1.out] at hK ⊢
  refine wp_region_lv 7 (fun _ => [(bA, B32 (bdig a), 22)]) [.v (.agg (B32 (bdig a))), .v (.agg (B32 (bdig (a % pp)))), .v (.agg (B32 (bdig a))), .v (.bool (decide (a % pp = a))), .v (.bool (decide (a % pp = a)))] hK (by kernel_rfl) (by kernel_rfl) (by kernel_rfl) (by rfl) ?_ ?_
  · exact .c (.ld bA (fun _ => .head _) Tryz.underlying22 rfl (B32_info _)) <| .c (.ca fun _ _ hkx => pmod_any a ha _ (hT.kp hkx)) <| .c (.ld bA (fun _ => .head _) Tryz.underlying22 rfl (B32_info _)) <| .c (.p2 4 (.agg (B32 (bdig (a % pp)))) 5 (.agg (B32 (bdig a))) (h := by intro ac wc f4 f5; have q0 := getq f4; have q1 := getq f5; have he := B32_eq (a % pp) a lt_of_mod ha; go_simp)) <| .c (.p1 6 (.bool (decide (a % pp = a)))) .nil
  · intro _ wq hJ _
    have hKq := hJ.1
    simp only [putL, Lv.val, Act.put, List.setIfInBounds_toArray, List.set_cons_succ, List.set_cons_zero]
    go_wp2_with fail
    go_ret
    exact ⟨by rw [← Hd.out]; rfl, hKq.2⟩
set_option maxRecDepth 100000 in
set_option maxHeartbeats 8000000 in
theorem padd_any (a b : Nat) (ha : a < R256) (hb : b < R256) (w : World) (hT : TP w) : Calls Tryz.prog 99 #[.agg (B32 (bdig a)), .agg (B32 (bdig b))] w fun x w' => x = .returned (.agg (B32 (bdig ((a + b) % pp)))) ∧ Below w.heap.size w w' := by
  have hz := (zero_of_info zeroB32).1
  have hs : a % pp + b % pp < R256 := by
    have h1 := Nat.mod_lt a pp_pos
    have h2 := Nat.mod_lt b pp_pos
    generalize a % pp = x at *
    generalize b % pp = y at *
    unfold pp at h1 h2
    unfold R256
    omega
  have Hfin : Hid ((a % pp + b % pp) % pp = (a + b) % pp) := (Nat.add_mod a b pp).symm
  go_enter Tryz.func99, Tryz.ntmps99
  go_upto_region 1 with fail
  have hK := (((Kp.nil w).alloc (B32 (bdig a)) 22).alloc (B32 (bdig b)) 22).alloc (B32 fun _ => 0) 22
  rw [World.size_alloc, World.size_alloc] at hK
  generalize ((w.alloc (.cells (B32 (bdig a)) 22)).alloc (.cells (B32 (bdig b)) 22)).alloc (.cells (B32 fun _ => 0) 22) = W at *
  obtain ⟨bA, H1⟩ : ∃ bA, Hid (w.heap.size = bA) := ⟨_, rfl⟩
  obtain ⟨bB, H2⟩ : ∃ bB, Hid (bA + 1 = bB) := ⟨_, rfl⟩
  obtain ⟨bR, H3⟩ : ∃ bR, Hid (bB + 1 = bR) := ⟨_, rfl⟩
  have hleR : w.heap.size ≤ bR := by have := H1.out; have := H2.out; have := H3.out; omega
  have nA : bA ≠ bR := by have := H2.out; have := H3.out; omega
  have nB : bB ≠ bR := by have := H3.out; omega
  rw [H1.out, H2.out, H3.out] at hK ⊢
  refine wp_region_lv 13 (fun L => [(bR, if L 8 = true then B32 (bdig ((a % pp + b % pp) % pp)) else B32 fun _ => 0, 22), (bB, B32 (bdig b), 22), (bA, B32 (bdig a), 22)]) [.v (.agg (B32 (bdig a))), .v (.agg (numA a)), .v (.agg (numA (a % pp))), .v (.agg (B32 (bdig b))), .v (.agg (numA b)), .v (.agg (numA (b % pp))), .v (.agg (numA (a % pp + b % pp))), .v (.agg (B32 (bdig ((a % pp + b % pp) % pp)))), .o] hK (by kernel_rfl) (by kernel_rfl) (by kernel_rfl) (by rfl) ?_ ?_
  · exact .c (.ld bA (fun _ => .tail _ (.tail _ (.head _))) Tryz.underlying22 rfl (B32_info _)) <| .c (.ca fun _ _ _ => read_any a _) <| .c (.ca fun _ _ hkx => least_any a ha _ (hT.kp hkx)) <| .c (.ld bB (fun _ => .tail _ (.head _)) Tryz.underlying22 rfl (B32_info _)) <| .c (.ca fun _ _ _ => read_any b _) <| .c (.ca fun _ _ hkx => least_any b hb _ (hT.kp hkx)) <| .c (.ca fun _ _ _ => fplus_any _ _ lt_of_mod lt_of_mod hs _) <| .c (.ca fun _ _ hkx => write_any _ hs _ (hT.kp hkx)) <| .c (.sk bR (.hr (fun _ => rfl) (fun _ => rfl) (fun _ => by simp; omega)) hleR (B32_info _) (B32_one _)) .nil
  · intro _ wq hJ _
    have hKq : Kp [(bR, B32 (bdig ((a % pp + b % pp) % pp)), 22), (bB, B32 (bdig b), 22), (bA, B32 (bdig a), 22)] w wq := hJ.1
    simp only [putL, Lv.val, Act.put, List.setIfInBounds_toArray, List.set_cons_succ, List.set_cons_zero]
    go_wp2_with fail
    exact bodyPost_ret (results_own Tryz.results99 _ _ bR (B32 (bdig ((a % pp + b % pp) % pp))) _ (by rfl) hKq.h1 Tryz.underlying22 rfl (B32_info _)) rfl ⟨by rw [Hfin.out], hKq.2⟩
set_option maxRecDepth 100000 in
set_option maxHeartbeats 8000000 in
theorem psub_any (a b : Nat) (ha : a < R256) (hb : b < R256) (w : World) (hT : TP w) : Calls Tryz.prog 100 #[.agg (B32 (bdig a)), .agg (B32 (bdig b))] w fun x w' => x = .returned (.agg (B32 (bdig ((a % pp + pp - b % pp) % pp)))) ∧ Below w.heap.size w w' := by
  have hz := (zero_of_info zeroB32).1
  have hq : pp - b % pp < R256 := Nat.lt_of_le_of_lt (Nat.sub_le _ _) (by decide)
  have hs : a % pp + (pp - b % pp) < R256 := by
    have h1 := Nat.mod_lt a pp_pos
    generalize a % pp = x at *
    generalize b % pp = y at *
    unfold pp at h1 ⊢
    unfold R256
    omega
  have Hfin : Hid ((a % pp + (pp - b % pp)) % pp = (a % pp + pp - b % pp) % pp) := by
    show _ = _
    rw [Nat.add_sub_assoc (Nat.le_of_lt (Nat.mod_lt b pp_pos))]
  go_enter Tryz.func100, Tryz.ntmps100
  go_upto_region 1 with fail
  have hK := (((Kp.nil w).alloc (B32 (bdig a)) 22).alloc (B32 (bdig b)) 22).alloc (B32 fun _ => 0) 22
  rw [World.size_alloc, World.size_alloc] at hK
  generalize ((w.alloc (.cells (B32 (bdig a)) 22)).alloc (.cells (B32 (bdig b)) 22)).alloc (.cells (B32 fun _ => 0) 22) = W at *
  obtain ⟨bA, H1⟩ : ∃ bA, Hid (w.heap.size = bA) := ⟨_, rfl⟩
  obtain ⟨bB, H2⟩ : ∃ bB, Hid (bA + 1 = bB) := ⟨_, rfl⟩
  obtain ⟨bR, H3⟩ : ∃ bR, Hid (bB + 1 = bR) := ⟨_, rfl⟩
  have hleR : w.heap.size ≤ bR := by have := H1.out; have := H2.out; have := H3.out; omega
  have nA : bA ≠ bR := by have := H2.out; have := H3.out; omega
  have nB : bB ≠ bR := by have := H3.out; omega
  rw [H1.out, H2.out, H3.out] at hK ⊢
  refine wp_region_lv 13 (fun L => [(bR, if L 8 = true then B32 (bdig ((a % pp + (pp - b % pp)) % pp)) else B32 fun _ => 0, 22), (bB, B32 (bdig b), 22), (bA, B32 (bdig a), 22)]) [.v (.agg (B32 (bdig a))), .v (.agg (numA a)), .v (.agg (numA (a % pp))), .v (.agg (B32 (bdig b))), .v (.agg (numA b)), .v (.agg (numA (pp - b % pp))), .v (.agg (numA (a % pp + (pp - b % pp)))), .v (.agg (B32 (bdig ((a % pp + (pp - b % pp)) % pp)))), .o] hK (by kernel_rfl) (by kernel_rfl) (by kernel_rfl) (by rfl) ?_ ?_
  · exact .c (.ld bA (fun _ => .tail _ (.tail _ (.head _))) Tryz.underlying22 rfl (B32_info _)) <| .c (.ca fun _ _ _ => read_any a _) <| .c (.ca fun _ _ hkx => least_any a ha _ (hT.kp hkx)) <| .c (.ld bB (fun _ => .tail _ (.head _)) Tryz.underlying22 rfl (B32_info _)) <| .c (.ca fun _ _ _ => read_any b _) <| .c (.ca fun _ _ hkx => opp_any b hb _ (hT.kp hkx)) <| .c (.ca fun _ _ _ => fplus_any _ _ lt_of_mod hq hs _) <| .c (.ca fun _ _ hkx => write_any _ hs _ (hT.kp hkx)) <| .c (.sk bR (.hr (fun _ => rfl) (fun _ => rfl) (fun _ => by simp; omega)) hleR (B32_info _) (B32_one _)) .nil
  · intro _ wq hJ _
    have hKq : Kp [(bR, B32 (bdig ((a % pp + (pp - b % pp)) % pp)), 22), (bB, B32 (bdig b), 22), (bA, B32 (bdig a), 22)] w wq := hJ.1
    simp only [putL, Lv.val, Act.put, List.setIfInBounds_toArray, List.set_cons_succ, List.set_cons_zero]
    go_wp2_with fail
    exact bodyPost_ret (results_own Tryz.results100 _ _ bR (B32 (bdig ((a % pp + (pp - b % pp)) % pp))) _ (by rfl) hKq.h1 Tryz.underlying22 rfl (B32_info _)) rfl ⟨by rw [Hfin.out], hKq.2⟩
set_option maxRecDepth 100000 in
set_option maxHeartbeats 8000000 in
theorem pmul_any (a b : Nat) (ha : a < R256) (hb : b < R256) (w : World) (hT : TP w) : Calls Tryz.prog 87 #[.agg (B32 (bdig a)), .agg (B32 (bdig b))] w fun x w' => x = .returned (.agg (B32 (bdig (a * b % pp)))) ∧ Below w.heap.size w w' := by
  have hz := (zero_of_info zeroB32).1
  have Hfin : Hid (tmul a b % pp = a * b % pp) := tmul_mod a b
  go_enter Tryz.func87, Tryz.ntmps87
  go_upto_region 1 with fail
  have hK := (((Kp.nil w).alloc (B32 (bdig a)) 22).alloc (B32 (bdig b)) 22).alloc (B32 fun _ => 0) 22
  rw [World.size_alloc, World.size_alloc] at hK
  generalize ((w.alloc (.cells (B32 (bdig a)) 22)).alloc (.cells (B32 (bdig b)) 22)).alloc (.cells (B32 fun _ => 0) 22) = W at *
  obtain ⟨bA, H1⟩ : ∃ bA, Hid (w.heap.size = bA) := ⟨_, rfl⟩
  obtain ⟨bB, H2⟩ : ∃ bB, Hid (bA + 1 = bB) := ⟨_, rfl⟩
  obtain ⟨bR, H3⟩ : ∃ bR, Hid (bB + 1 = bR) := ⟨_, rfl⟩
  have hleR : w.heap.size ≤ bR := by have := H1.out; have := H2.out; have := H3.out; omega
  have nA : bA ≠ bR := by have := H2.out; have := H3.out; omega
  have nB : bB ≠ bR := by have := H3.out; omega
  rw [H1.out, H2.out, H3.out] at hK ⊢
  refine wp_region_lv 11 (fun L => [(bR, if L 6 = true then B32 (bdig (tmul a b % pp)) else B32 fun _ => 0, 22), (bB, B32 (bdig b), 22), (bA, B32 (bdig a), 22)]) [.v (.agg (B32 (bdig a))), .v (.agg (numA a)), .v (.agg (B32 (bdig b))), .v (.agg (numA b)), .v (.agg (numA (tmul a b))), .v (.agg (B32 (bdig (tmul a b % pp)))), .o] hK (by kernel_rfl) (by kernel_rfl) (by kernel_rfl) (by rfl) ?_ ?_
  · exact .c (.ld bA (fun _ => .tail _ (.tail _ (.head _))) Tryz.underlying22 rfl (B32_info _)) <| .c (.ca fun _ _ _ => read_any a _) <| .c (.ld bB (fun _ => .tail _ (.head _)) Tryz.underlying22 rfl (B32_info _)) <| .c (.ca fun _ _ _ => read_any b _) <| .c (.ca fun _ _ _ => ptimes_any a b ha hb _) <| .c (.ca fun _ _ hkx => write_any _ (tmul_lt ha hb) _ (hT.kp hkx)) <| .c (.sk bR (.hr (fun _ => rfl) (fun _ => rfl) (fun _ => by simp; omega)) hleR (B32_info _) (B32_one _)) .nil
  · intro _ wq hJ _
    have hKq : Kp [(bR, B32 (bdig (tmul a b % pp)), 22), (bB, B32 (bdig b), 22), (bA, B32 (bdig a), 22)] w wq := hJ.1
    simp only [putL, Lv.val, Act.put, List.setIfInBounds_toArray, List.set_cons_succ, List.set_cons_zero]
    go_wp2_with fail
    exact bodyPost_ret (results_own Tryz.results87 _ _ bR (B32 (bdig (tmul a b % pp))) _ (by rfl) hKq.h1 Tryz.underlying22 rfl (B32_info _)) rfl ⟨by rw [Hfin.out], hKq.2⟩
theorem fld : Fld TP where
  keep := fun _ _ h hB => h.keep hB
  check := pcheck_any
  mod := pmod_any
  add := padd_any
  sub := psub_any
  mul := pmul_any
end Go.Proofs.YtgibllaifnnfkaaGreatDoor
