/- Words written as bytes; a number's bytes. -/
import Derived.Test.YtaefjbklioljnaaDoorF7
namespace Go.Proofs.YtaefjbklioljnaaDoor
open Go.RowKit
/-- Eight bytes of a word, laid at a place. -/
def put8 (w : World) (b o v : Nat) : World :=
  (((((((w.setCell ⟨b, o, none⟩ (.int .u8 (bdig v 0 : Int))).setCell ⟨b, o + 1, none⟩ (.int .u8 (bdig v 1 : Int))).setCell ⟨b, o + 2, none⟩ (.int .u8 (bdig v 2 : Int))).setCell ⟨b, o + 3, none⟩ (.int .u8 (bdig v 3 : Int))).setCell ⟨b, o + 4, none⟩ (.int .u8 (bdig v 4 : Int))).setCell ⟨b, o + 5, none⟩ (.int .u8 (bdig v 5 : Int))).setCell ⟨b, o + 6, none⟩ (.int .u8 (bdig v 6 : Int))).setCell ⟨b, o + 7, none⟩ (.int .u8 (bdig v 7 : Int))
def upd8 (f : Nat → Nat) (o v : Nat) : Nat → Nat := upd (upd (upd (upd (upd (upd (upd (upd f o (bdig v 0)) (o + 1) (bdig v 1)) (o + 2) (bdig v 2)) (o + 3) (bdig v 3)) (o + 4) (bdig v 4)) (o + 5) (bdig v 5)) (o + 6) (bdig v 6)) (o + 7) (bdig v 7)
theorem Kp.put8 {l : List (Nat × Array Value × TypeId)} {w0 w : World} {b o v : Nat} {f : Nat → Nat} {t : TypeId} (h : Kp ((b, B32 f, t) :: l) w0 w) (hl : ∀ p ∈ l, p.1 ≠ b) (hb : w0.heap.size ≤ b) (ho : o + 7 < 32) : Kp ((b, B32 (upd8 f o v), t) :: l) w0 (put8 w b o v) := by
  have step : ∀ {w : World} {g : Nat → Nat} (i x : Nat), i < 32 → Kp ((b, B32 g, t) :: l) w0 w → Kp ((b, B32 (upd g i x), t) :: l) w0 (w.setCell ⟨b, i, none⟩ (.int .u8 (x : Int))) := fun {w g} i x hi hk => by
    have := Kp.setCell (i := i) (v := .int .u8 (x : Int)) hk hl hb
    rw [B32_set g i x hi] at this
    exact this
  exact step _ _ (by omega) (step _ _ (by omega) (step _ _ (by omega) (step _ _ (by omega) (step _ _ (by omega) (step _ _ (by omega) (step _ _ (by omega) (step _ _ (by omega) h)))))))
set_option maxRecDepth 100000 in
set_option maxHeartbeats 8000000 in
theorem putWord_any (b o cap v : Nat) (f : Nat → Nat) (w : World) (ho : o + 7 < 32) {t : TypeId} (hO : Own w b (B32 f) t) :
    Calls Tryd.prog 43 #[.slice (some ⟨b, o, none⟩) 8 cap, .int .u64 (v : Int)] w fun r w' => r = .returned (.tuple #[]) ∧ w' = put8 w b o v := by
  have c0 := hO.cell (B32_at f o (by omega))
  have c1 := hO.cell (B32_at f (o + 1) (by omega))
  have c2 := hO.cell (B32_at f (o + 2) (by omega))
  have c3 := hO.cell (B32_at f (o + 3) (by omega))
  have c4 := hO.cell (B32_at f (o + 4) (by omega))
  have c5 := hO.cell (B32_at f (o + 5) (by omega))
  have c6 := hO.cell (B32_at f (o + 6) (by omega))
  have c7 := hO.cell (B32_at f (o + 7) (by omega))
  have z0 := hO.frozen o
  have z1 := hO.frozen (o + 1)
  have z2 := hO.frozen (o + 2)
  have z3 := hO.frozen (o + 3)
  have z4 := hO.frozen (o + 4)
  have z5 := hO.frozen (o + 5)
  have z6 := hO.frozen (o + 6)
  have z7 := hO.frozen (o + 7)
  go_enter Tryd.func43, Tryd.ntmps43
  go_wp2_with fail
  refine bodyPost_end (results_none Tryd.results43 _ _ _) rfl ⟨rfl, ?_⟩
  have b0 : ((bdig v 0 : Nat) : Int) = (v : Int) % 256 := by unfold bdig; rw [Nat.pow_zero, Nat.div_one]; omega
  have b1 : ((bdig v 1 : Nat) : Int) = (v : Int) / 256 % 256 := by unfold bdig; rw [show (256 : Nat) ^ 1 = 256 from rfl]; omega
  have b2 : ((bdig v 2 : Nat) : Int) = (v : Int) / 65536 % 256 := by unfold bdig; rw [show (256 : Nat) ^ 2 = 65536 from rfl]; omega
  have b3 : ((bdig v 3 : Nat) : Int) = (v : Int) / 16777216 % 256 := by unfold bdig; rw [show (256 : Nat) ^ 3 = 16777216 from rfl]; omega
  have b4 : ((bdig v 4 : Nat) : Int) = (v : Int) / 4294967296 % 256 := by unfold bdig; rw [show (256 : Nat) ^ 4 = 4294967296 from rfl]; omega
  have b5 : ((bdig v 5 : Nat) : Int) = (v : Int) / 1099511627776 % 256 := by unfold bdig; rw [show (256 : Nat) ^ 5 = 1099511627776 from rfl]; omega
  have b6 : ((bdig v 6 : Nat) : Int) = (v : Int) / 281474976710656 % 256 := by unfold bdig; rw [show (256 : Nat) ^ 6 = 281474976710656 from rfl]; omega
  have b7 : ((bdig v 7 : Nat) : Int) = (v : Int) / 72057594037927936 % 256 := by unfold bdig; rw [show (256 : Nat) ^ 7 = 72057594037927936 from rfl]; omega
  unfold put8
  rw [b0, b1, b2, b3, b4, b5, b6, b7]
theorem upd8_in (f : Nat → Nat) (o v j : Nat) (hj : j < 8) : upd8 f o v (o + j) = bdig v j := by
  unfold upd8
  have : j = 0 ∨ j = 1 ∨ j = 2 ∨ j = 3 ∨ j = 4 ∨ j = 5 ∨ j = 6 ∨ j = 7 := by omega
  rcases this with rfl | rfl | rfl | rfl | rfl | rfl | rfl | rfl <;> simp [upd]
theorem upd8_out (f : Nat → Nat) (o v i : Nat) (hi : i < o ∨ o + 8 ≤ i) : upd8 f o v i = f i := by
  unfold upd8
  rw [upd_other _ _ _ _ (by omega), upd_other _ _ _ _ (by omega), upd_other _ _ _ _ (by omega), upd_other _ _ _ _ (by omega), upd_other _ _ _ _ (by omega), upd_other _ _ _ _ (by omega), upd_other _ _ _ _ (by omega), upd_other _ _ _ _ (by omega)]
theorem bdig_dig (m k j : Nat) (hj : j < 8) : bdig (dig m k) j = bdig m (8 * k + j) := by
  have := byte_of m (8 * k + j)
  rw [show (8 * k + j) / 8 = k by omega, show (8 * k + j) % 8 = j by omega] at this
  rw [← this]
  unfold bdig
  rw [show (256 : Nat) ^ j = 2 ^ (8 * j) by rw [Nat.pow_mul]]
theorem all32 (m : Nat) : B32 (upd8 (upd8 (upd8 (upd8 (fun _ => 0) 0 (dig m 0)) 8 (dig m 1)) 16 (dig m 2)) 24 (dig m 3)) = B32 (bdig m) := by
  refine B32_ext fun i hi => ?_
  have h : i < 8 ∨ (8 ≤ i ∧ i < 16) ∨ (16 ≤ i ∧ i < 24) ∨ 24 ≤ i := by omega
  rcases h with h | h | h | h
  · rw [upd8_out _ _ _ _ (by omega), upd8_out _ _ _ _ (by omega), upd8_out _ _ _ _ (by omega)]
    have := upd8_in (fun _ => 0) 0 (dig m 0) i h
    rw [Nat.zero_add] at this
    rw [this, bdig_dig _ _ _ h, Nat.mul_zero, Nat.zero_add]
  · rw [upd8_out _ _ _ _ (by omega), upd8_out _ _ _ _ (by omega)]
    obtain ⟨j, rfl⟩ := Nat.exists_eq_add_of_le h.1
    rw [upd8_in _ _ _ _ (by omega), bdig_dig _ _ _ (by omega)]
  · rw [upd8_out _ _ _ _ (by omega)]
    obtain ⟨j, rfl⟩ := Nat.exists_eq_add_of_le h.1
    rw [upd8_in _ _ _ _ (by omega), bdig_dig _ _ _ (by omega)]
  · obtain ⟨j, rfl⟩ := Nat.exists_eq_add_of_le h
    rw [upd8_in _ _ _ _ (by omega), bdig_dig _ _ _ (by omega)]
theorem dig_at (m k : Nat) (hk : k < 4) : (numA m)[k]? = some (.int .u64 (dig m k : Int)) := numA_at m k hk
def valWr0 (bO bN d : Nat) : Nat → Value
  | 0 => .slice (some ⟨bO, 0, none⟩) 8 32
  | 1 => .pointer (some ⟨bN, 0, none⟩)
  | 2 => .int .u64 (d : Int)
  | 3 => .tuple #[]
  | _ => undef
def valWr1 (bO bN d : Nat) : Nat → Value
  | 0 => .slice (some ⟨bO, 8, none⟩) 8 24
  | 1 => .pointer (some ⟨bN, 1, none⟩)
  | 2 => .int .u64 (d : Int)
  | 3 => .tuple #[]
  | _ => undef
def valWr2 (bO bN d : Nat) : Nat → Value
  | 0 => .slice (some ⟨bO, 16, none⟩) 8 16
  | 1 => .pointer (some ⟨bN, 2, none⟩)
  | 2 => .int .u64 (d : Int)
  | 3 => .tuple #[]
  | _ => undef
def valWr3 (bO bN d : Nat) : Nat → Value
  | 0 => .slice (some ⟨bO, 24, none⟩) 8 8
  | 1 => .pointer (some ⟨bN, 3, none⟩)
  | 2 => .int .u64 (d : Int)
  | 3 => .tuple #[]
  | _ => undef

set_option maxRecDepth 100000 in
set_option maxHeartbeats 8000000 in
theorem write_any (n : Nat) (hn : n < R256) (w : World) (hT : TP w) :
    Calls Tryd.prog 28 #[.agg (numA n)] w fun r w' => r = .returned (.agg (B32 (bdig (n % pp)))) ∧ Below w.heap.size w w' := by
  have hz := (zero_of_info zeroB32).1
  obtain ⟨m, Hm⟩ : ∃ m, Hid (n % pp = m) := ⟨_, rfl⟩
  rw [Hm.out]
  go_enter Tryd.func28, Tryd.ntmps28
  go_upto_region 1 with fail
  have hK := ((Kp.nil w).alloc (numA n) 46).alloc (B32 fun _ => 0) 22
  rw [World.size_alloc] at hK
  generalize (w.alloc (.cells (numA n) 46)).alloc (.cells (B32 fun _ => 0) 22) = W at *
  obtain ⟨bN, H1⟩ : ∃ bN, Hid (w.heap.size = bN) := ⟨_, rfl⟩
  obtain ⟨bR, H2⟩ : ∃ bR, Hid (bN + 1 = bR) := ⟨_, rfl⟩
  have hleN : w.heap.size ≤ bN := Nat.le_of_eq H1.out
  have hleR : w.heap.size ≤ bR := by have := H1.out; have := H2.out; omega
  have nR : bR ≠ bN := by have := H2.out; omega
  rw [H1.out, H2.out] at hK ⊢
  have hK : Kp [(bN, numA n, 46), (bR, B32 fun _ => 0, 22)] w W := hK.sub (by simp)
  go_wp2_with (refine wpList_load_own (by rfl) 46 (.tmp 1) (by rfl) bN (by rfl) (numA n) _ hK.h1 Tryd.underlying46 (by rfl) infoFN ?_)
  refine (least_any n hn W (hT.kp hK)).mono ?_
  rintro r W1 ⟨rfl, bw⟩
  rw [Hm.out]
  have hK := hK.below bw
  go_upto_region 2 with (refine wpList_store_own (by rfl) 46 (.tmp 1) (.tmp 5) (by rfl) bN 0 (numA m) (by rfl) (by rfl) hK.h1 (Nat.le_refl _) infoFN (numA_one _) (by rfl) ?_)
  have hK := Kp.set (A' := numA m) hK (by simp; omega) hleN rfl
  generalize W1.setCells bN 0 (numA m).toList = W2 at *
  have lN := hK.h1.lt
  have lR := hK.h2.lt
  go_upto_region 3 with fail
  have hK := hK.alloc (B32 fun _ => 0) 22
  generalize W2.alloc (.cells (B32 fun _ => 0) 22) = W3 at *
  obtain ⟨bO, H3⟩ : ∃ bO, Hid (W2.heap.size = bO) := ⟨_, rfl⟩
  rw [H3.out] at hK lN lR ⊢
  have hleO : w.heap.size ≤ bO := by omega
  have nN : bN ≠ bO := by omega
  have nO : bR ≠ bO := by omega
  clear lN lR
  refine wp_region_vals 23 (by kernel_rfl) (by kernel_rfl) (by rfl) (valWr0 bO bN (dig m 0)) (fun L => Kp [(bO, B32 (if L 3 then (upd8 (fun _ => 0) 0 (dig m 0)) else (fun _ => 0)), 22), (bN, numA m, 46), (bR, B32 fun _ => 0, 22)] w) hK.drew ?_ ?_
  · intro L ac wc i o hF hLi ho hd K hK
    rcases i with _ | _ | _ | _ | i
    · have ho' := ho
      obtain rfl := Option.some.inj ho
      have f3 : ac.tmps.getD 3 undef = .pointer (some ⟨bO, 0, none⟩) := slotv hF 0 hLi 3 (by kernel_rfl)
      refine step_do ho' (wanted_free rfl) ?_
      unfold Oper.wp
      go_simp
      exact hK _ _ (.inr rfl) hF.j
    · have ho' := ho
      obtain rfl := Option.some.inj ho
      have f1 : ac.tmps.getD 1 undef = .pointer (some ⟨bN, 0, none⟩) := slotv hF 1 hLi 1 (by kernel_rfl)
      refine step_do ho' (wanted_free rfl) ?_
      unfold Oper.wp
      go_simp
      exact hK _ _ (.inr rfl) hF.j
    · have ho' := ho
      obtain rfl := Option.some.inj ho
      have f7 : ac.tmps.getD 7 undef = .pointer (some ⟨bN, 0, none⟩) := valv hF hd 1 rfl rfl (by kernel_rfl)
      refine step_do ho' (wanted_free rfl) ?_
      have cN := hF.j.h2.cell (dig_at m 0 (by decide))
      unfold Oper.wp
      go_simp
      exact hK _ _ (.inr rfl) hF.j
    · have ho' := ho
      obtain rfl := Option.some.inj ho
      have f6 : ac.tmps.getD 6 undef = .slice (some ⟨bO, 0, none⟩) 8 32 := valv hF hd 0 rfl rfl (by kernel_rfl)
      have f8 : ac.tmps.getD 8 undef = .int .u64 (dig m 0 : Int) := valv hF hd 2 rfl rfl (by kernel_rfl)
      refine step_do ho' (wanted_free rfl) ?_
      have hj := hF.j
      rw [hLi] at hj
      unfold Oper.wp
      go_simp
      refine (putWord_any bO 0 32 (dig m 0) (fun _ => 0) _ (by decide) hj.h1).mono ?_
      rintro e w' ⟨rfl, rfl⟩
      exact hK _ _ (.inr rfl) (Kp.put8 hj (by simp; omega) hleO (by decide))
    · cases ho
  · intro L V0 hL hK
    rw [hL 3 (by decide)] at hK
    simp only [putAll, valWr0, Act.put, List.setIfInBounds_toArray, List.set_cons_succ, List.set_cons_zero]
    go_upto_region 4 with fail
    refine wp_region_vals 23 (by kernel_rfl) (by kernel_rfl) (by rfl) (valWr1 bO bN (dig m 1)) (fun L => Kp [(bO, B32 (if L 3 then (upd8 (upd8 (fun _ => 0) 0 (dig m 0)) 8 (dig m 1)) else (upd8 (fun _ => 0) 0 (dig m 0))), 22), (bN, numA m, 46), (bR, B32 fun _ => 0, 22)] w) hK.drew ?_ ?_
    · intro L ac wc i o hF hLi ho hd K hK
      rcases i with _ | _ | _ | _ | i
      · have ho' := ho
        obtain rfl := Option.some.inj ho
        have f3 : ac.tmps.getD 3 undef = .pointer (some ⟨bO, 0, none⟩) := slotv hF 0 hLi 3 (by kernel_rfl)
        refine step_do ho' (wanted_free rfl) ?_
        unfold Oper.wp
        go_simp
        exact hK _ _ (.inr rfl) hF.j
      · have ho' := ho
        obtain rfl := Option.some.inj ho
        have f1 : ac.tmps.getD 1 undef = .pointer (some ⟨bN, 0, none⟩) := slotv hF 1 hLi 1 (by kernel_rfl)
        refine step_do ho' (wanted_free rfl) ?_
        unfold Oper.wp
        go_simp
        exact hK _ _ (.inr rfl) hF.j
      · have ho' := ho
        obtain rfl := Option.some.inj ho
        have f11 : ac.tmps.getD 11 undef = .pointer (some ⟨bN, 1, none⟩) := valv hF hd 1 rfl rfl (by kernel_rfl)
        refine step_do ho' (wanted_free rfl) ?_
        have cN := hF.j.h2.cell (dig_at m 1 (by decide))
        unfold Oper.wp
        go_simp
        exact hK _ _ (.inr rfl) hF.j
      · have ho' := ho
        obtain rfl := Option.some.inj ho
        have f10 : ac.tmps.getD 10 undef = .slice (some ⟨bO, 8, none⟩) 8 24 := valv hF hd 0 rfl rfl (by kernel_rfl)
        have f12 : ac.tmps.getD 12 undef = .int .u64 (dig m 1 : Int) := valv hF hd 2 rfl rfl (by kernel_rfl)
        refine step_do ho' (wanted_free rfl) ?_
        have hj := hF.j
        rw [hLi] at hj
        unfold Oper.wp
        go_simp
        refine (putWord_any bO 8 24 (dig m 1) (upd8 (fun _ => 0) 0 (dig m 0)) _ (by decide) hj.h1).mono ?_
        rintro e w' ⟨rfl, rfl⟩
        exact hK _ _ (.inr rfl) (Kp.put8 hj (by simp; omega) hleO (by decide))
      · cases ho
    · intro L V1 hL hK
      rw [hL 3 (by decide)] at hK
      simp only [putAll, valWr1, Act.put, List.setIfInBounds_toArray, List.set_cons_succ, List.set_cons_zero]
      go_upto_region 5 with fail
      refine wp_region_vals 23 (by kernel_rfl) (by kernel_rfl) (by rfl) (valWr2 bO bN (dig m 2)) (fun L => Kp [(bO, B32 (if L 3 then (upd8 (upd8 (upd8 (fun _ => 0) 0 (dig m 0)) 8 (dig m 1)) 16 (dig m 2)) else (upd8 (upd8 (fun _ => 0) 0 (dig m 0)) 8 (dig m 1))), 22), (bN, numA m, 46), (bR, B32 fun _ => 0, 22)] w) hK.drew ?_ ?_
      · intro L ac wc i o hF hLi ho hd K hK
        rcases i with _ | _ | _ | _ | i
        · have ho' := ho
          obtain rfl := Option.some.inj ho
          have f3 : ac.tmps.getD 3 undef = .pointer (some ⟨bO, 0, none⟩) := slotv hF 0 hLi 3 (by kernel_rfl)
          refine step_do ho' (wanted_free rfl) ?_
          unfold Oper.wp
          go_simp
          exact hK _ _ (.inr rfl) hF.j
        · have ho' := ho
          obtain rfl := Option.some.inj ho
          have f1 : ac.tmps.getD 1 undef = .pointer (some ⟨bN, 0, none⟩) := slotv hF 1 hLi 1 (by kernel_rfl)
          refine step_do ho' (wanted_free rfl) ?_
          unfold Oper.wp
          go_simp
          exact hK _ _ (.inr rfl) hF.j
        · have ho' := ho
          obtain rfl := Option.some.inj ho
          have f15 : ac.tmps.getD 15 undef = .pointer (some ⟨bN, 2, none⟩) := valv hF hd 1 rfl rfl (by kernel_rfl)
          refine step_do ho' (wanted_free rfl) ?_
          have cN := hF.j.h2.cell (dig_at m 2 (by decide))
          unfold Oper.wp
          go_simp
          exact hK _ _ (.inr rfl) hF.j
        · have ho' := ho
          obtain rfl := Option.some.inj ho
          have f14 : ac.tmps.getD 14 undef = .slice (some ⟨bO, 16, none⟩) 8 16 := valv hF hd 0 rfl rfl (by kernel_rfl)
          have f16 : ac.tmps.getD 16 undef = .int .u64 (dig m 2 : Int) := valv hF hd 2 rfl rfl (by kernel_rfl)
          refine step_do ho' (wanted_free rfl) ?_
          have hj := hF.j
          rw [hLi] at hj
          unfold Oper.wp
          go_simp
          refine (putWord_any bO 16 16 (dig m 2) (upd8 (upd8 (fun _ => 0) 0 (dig m 0)) 8 (dig m 1)) _ (by decide) hj.h1).mono ?_
          rintro e w' ⟨rfl, rfl⟩
          exact hK _ _ (.inr rfl) (Kp.put8 hj (by simp; omega) hleO (by decide))
        · cases ho
      · intro L V2 hL hK
        rw [hL 3 (by decide)] at hK
        simp only [putAll, valWr2, Act.put, List.setIfInBounds_toArray, List.set_cons_succ, List.set_cons_zero]
        go_upto_region 6 with fail
        refine wp_region_vals 23 (by kernel_rfl) (by kernel_rfl) (by rfl) (valWr3 bO bN (dig m 3)) (fun L => Kp [(bO, B32 (if L 3 then (upd8 (upd8 (upd8 (upd8 (fun _ => 0) 0 (dig m 0)) 8 (dig m 1)) 16 (dig m 2)) 24 (dig m 3)) else (upd8 (upd8 (upd8 (fun _ => 0) 0 (dig m 0)) 8 (dig m 1)) 16 (dig m 2))), 22), (bN, numA m, 46), (bR, B32 fun _ => 0, 22)] w) hK.drew ?_ ?_
        · intro L ac wc i o hF hLi ho hd K hK
          rcases i with _ | _ | _ | _ | i
          · have ho' := ho
            obtain rfl := Option.some.inj ho
            have f3 : ac.tmps.getD 3 undef = .pointer (some ⟨bO, 0, none⟩) := slotv hF 0 hLi 3 (by kernel_rfl)
            refine step_do ho' (wanted_free rfl) ?_
            unfold Oper.wp
            go_simp
            exact hK _ _ (.inr rfl) hF.j
          · have ho' := ho
            obtain rfl := Option.some.inj ho
            have f1 : ac.tmps.getD 1 undef = .pointer (some ⟨bN, 0, none⟩) := slotv hF 1 hLi 1 (by kernel_rfl)
            refine step_do ho' (wanted_free rfl) ?_
            unfold Oper.wp
            go_simp
            exact hK _ _ (.inr rfl) hF.j
          · have ho' := ho
            obtain rfl := Option.some.inj ho
            have f19 : ac.tmps.getD 19 undef = .pointer (some ⟨bN, 3, none⟩) := valv hF hd 1 rfl rfl (by kernel_rfl)
            refine step_do ho' (wanted_free rfl) ?_
            have cN := hF.j.h2.cell (dig_at m 3 (by decide))
            unfold Oper.wp
            go_simp
            exact hK _ _ (.inr rfl) hF.j
          · have ho' := ho
            obtain rfl := Option.some.inj ho
            have f18 : ac.tmps.getD 18 undef = .slice (some ⟨bO, 24, none⟩) 8 8 := valv hF hd 0 rfl rfl (by kernel_rfl)
            have f20 : ac.tmps.getD 20 undef = .int .u64 (dig m 3 : Int) := valv hF hd 2 rfl rfl (by kernel_rfl)
            refine step_do ho' (wanted_free rfl) ?_
            have hj := hF.j
            rw [hLi] at hj
            unfold Oper.wp
            go_simp
            refine (putWord_any bO 24 8 (dig m 3) (upd8 (upd8 (upd8 (fun _ => 0) 0 (dig m 0)) 8 (dig m 1)) 16 (dig m 2)) _ (by decide) hj.h1).mono ?_
            rintro e w' ⟨rfl, rfl⟩
            exact hK _ _ (.inr rfl) (Kp.put8 hj (by simp; omega) hleO (by decide))
          · cases ho
        · intro L V3 hL hK
          rw [hL 3 (by decide)] at hK
          simp only [putAll, valWr3, Act.put, List.setIfInBounds_toArray, List.set_cons_succ, List.set_cons_zero]
          go_upto_region 7 with fail
          have hK : Kp [(bO, B32 (upd8 (upd8 (upd8 (upd8 (fun _ => 0) 0 (dig m 0)) 8 (dig m 1)) 16 (dig m 2)) 24 (dig m 3)), 22), (bN, numA m, 46), (bR, B32 fun _ => 0, 22)] w V3 := hK
          rw [all32] at hK
          go_wp2_with (first
            | refine wpList_load_own (by rfl) 22 (.tmp 3) (by rfl) bO (by rfl) (B32 (bdig m)) _ hK.h1 Tryd.underlying22 (by rfl) (B32_info _) ?_
            | refine wpList_store_own (by rfl) 22 (.tmp 2) (.tmp 22) (by rfl) bR 0 (B32 (bdig m)) (by rfl) (by rfl) hK.h3 (B32_le _ _) (B32_info _) (B32_one _) (by rfl) ?_)
          exact bodyPost_ret (results_own Tryd.results28 _ _ bR (B32 (bdig m)) _ (by rfl) (own_setCells hK.h3 (B32_sizes _ _)) Tryd.underlying22 rfl (B32_info _)) rfl ⟨rfl, Below.setCells _ _ _ _ hleR hK.2⟩
end Go.Proofs.YtaefjbklioljnaaDoor
