/- Of the texts E8, E9, EC: what the card of this claim reaches. -/
import Derived.Test.YtfkcphbbabaefaaDoorXB8
namespace Go.Proofs.YtfkcphbbabaefaaDoor
open Go.RowKit
theorem vl_split (o : Nat → Nat) : ∀ n, vl o (n + 4) = vl o 4 + 18446744073709551616 ^ 4 * vl (fun j => o (j + 4)) n
  | 0 => by rw [Nat.zero_add, vl_first, Nat.mul_zero, Nat.add_zero]
  | n + 1 => by
    have e1 : vl o (n + 1 + 4) = vl o (n + 4) + o (n + 4) * 18446744073709551616 ^ (n + 4) := by rw [Nat.add_right_comm n 1 4]; exact Eq.refl _
    have e2 : vl (fun j => o (j + 4)) (n + 1) = vl (fun j => o (j + 4)) n + o (n + 4) * 18446744073709551616 ^ n := Eq.refl _
    rw [e1, e2, vl_split o n, Nat.mul_add, Nat.pow_add, Nat.add_assoc, Nat.mul_comm (18446744073709551616 ^ n), Nat.mul_left_comm (o (n + 4))]
def rdA (A : Array Value) : Nat := vl (fun i => (intOf (A.getD i undef)).toNat) 4
def rd (w : World) (b : Nat) : Nat := match w.heap[b]? with
  | some (.cells A _ _) => rdA A
  | _ => 0
theorem rdA_num (n : Nat) (h : n < R256) : rdA (numA n) = n := by
  have : rdA (numA n) = vl (dig n) 4 := by
    unfold rdA
    refine vl_congr 4 fun i hi => ?_
    have := numA_at n i hi
    rw [Array.getD_eq_getD_getElem?, this]
    simp [intOf]
  rw [this, vl_num n h]
theorem rd_own {w : World} {b n : Nat} {t : TypeId} (ho : Own w b (numA n) t) (h : n < R256) : rd w b = n := by
  have ho' : w.heap[b]? = some (.cells (numA n) t (0, 0)) := ho
  unfold rd
  rw [ho']
  exact rdA_num n h
def meas (v : Value) (x y : Nat) : Nat := match v with
  | .bool true => x + R256 * y + 1
  | _ => 0
theorem meas_less {lo hi s h : Nat} {m' : Bool} (hlo : lo < R256) (e : lo + 38 * hi = s + R256 * h) (hm : ((h : Int) != 0) = m') : meas (.bool m') s h < meas (.bool true) lo hi := by
  have h38 : 38 < R256 := by decide
  cases m' with
  | false => show 0 < lo + R256 * hi + 1; exact Nat.succ_pos _
  | true =>
    show s + R256 * h + 1 < lo + R256 * hi + 1
    rw [← e]
    have hh : h ≠ 0 := fun z => by rw [z] at hm; simp at hm
    generalize R256 = R at *
    have hhi : 0 < hi := by
      rcases Nat.eq_zero_or_pos hi with z | z
      · exfalso
        rw [z, Nat.mul_zero, Nat.add_zero] at e
        have : R * 1 ≤ R * h := Nat.mul_le_mul_left _ (by omega)
        omega
      · exact z
    have := Nat.mul_lt_mul_of_pos_right h38 hhi
    omega
theorem Kp.set2 {l : List (Nat × Array Value × TypeId)} {w0 w : World} {b : Nat} {A A' : Array Value} {t : TypeId} {q : Nat × Array Value × TypeId} (h : Kp (q :: (b, A, t) :: l) w0 w) (hl : ∀ p ∈ q :: l, p.1 ≠ b) (hb : w0.heap.size ≤ b) (hs : A'.size = A.size) : Kp (q :: (b, A', t) :: l) w0 (w.setCells b 0 A'.toList) := by
  have h1 : Kp ((b, A, t) :: q :: l) w0 w := h.sub (fun p hp => by
    simp only [List.mem_cons] at hp ⊢
    rcases hp with h | h | h
    · exact .inr (.inl h)
    · exact .inl h
    · exact .inr (.inr h))
  exact (h1.set hl hb hs).sub (fun p hp => by
    simp only [List.mem_cons] at hp ⊢
    rcases hp with h | h | h
    · exact .inr (.inl h)
    · exact .inl h
    · exact .inr (.inr h))
theorem fold_top (x : Nat → Nat) (hx : ∀ i, i < 8 → x i < 18446744073709551616) {hi : Nat} (hhi : hi < R256) (e : vl x 8 = hi * 38) : x 4 < 38 ∧ Hid (vl x 4 + R256 * x 4 = hi * 38) := by
  have h1 := vl_split x 4
  have h2 : vl x (4 + 4) = hi * 38 := e
  rw [h2, pow4] at h1
  have h3 := dig_vl (fun j => x (j + 4)) 4 (fun i hi => hx (i + 4) (by omega)) 0 (by omega)
  have h4 : vl (fun j => x (j + 4)) 4 < 38 := by
    rcases Nat.lt_or_ge (vl (fun j => x (j + 4)) 4) 38 with h | h
    · exact h
    · exfalso
      have : R256 * 38 ≤ R256 * vl (fun j => x (j + 4)) 4 := Nat.mul_le_mul_left _ h
      omega
  generalize vl (fun j => x (j + 4)) 4 = y at *
  have h5 : x 4 = y := by
    rw [← h3]
    unfold dig
    rw [Nat.pow_zero, Nat.div_one, Nat.mod_eq_of_lt (by omega)]
  rw [h5]
  exact ⟨h4, h1.symm⟩
def valQ (bT s c h : Nat) (x : Nat → Nat) : Nat → Value
  | 0 => .agg (numA s)
  | 1 => .pointer (some ⟨bT, 4, none⟩)
  | 2 => .int .u64 (x 4 : Int)
  | 3 => .int .u64 (c : Int)
  | 4 => .int .u64 (h : Int)
  | _ => .agg (numA h)
theorem times_any (a b : Nat) (ha : a < R256) (hb : b < R256) (w : World) :
    Calls Tryd.prog 73 #[.agg (numA a), .agg (numA b)] w fun e w' => (∃ o : Nat → Nat, e = .returned (.agg (A8 o)) ∧ (∀ i, i < 8 → o i < 18446744073709551616) ∧ vl o 8 = a * b) ∧ Below w.heap.size w w' := by
  refine (times_dig (dig a) (dig b) (fun i _ => dig_lt a i) (fun i _ => dig_lt b i) w).mono ?_
  rintro e w' ⟨⟨o, rfl, ho, he⟩, hB⟩
  rw [vl_num a ha, vl_num b hb] at he
  exact ⟨⟨o, rfl, ho, he⟩, hB⟩
set_option maxRecDepth 100000 in
set_option maxHeartbeats 8000000 in
theorem fmul_any (a b : Nat) (ha : a < R256) (hb : b < R256) (w : World) : Calls Tryd.prog 45 #[.agg (numA a), .agg (numA b)] w fun e w' => e = .returned (.agg (numA (a * b % pp))) ∧ Below w.heap.size w w' := by
  obtain ⟨r, Hr⟩ : ∃ r, Hid (a * b % pp = r) := ⟨_, rfl⟩
  rw [Hr.out]
  have hz := (zero_of_info zeroLit).1
  have hz8 := (zero_of_info zeroA8).1
  go_enter Tryd.func45, Tryd.ntmps45
  go_upto_region 1 with fail
  have hK0 := (((Kp.nil w).alloc (numA a) 35).alloc (numA b) 35).alloc (numA 0) 35
  rw [World.size_alloc, World.size_alloc] at hK0
  rw [show (#[.int .u64 0, .int .u64 0, .int .u64 0, .int .u64 0] : Array Value) = numA 0 from rfl]
  generalize ((w.alloc (.cells (numA a) 35)).alloc (.cells (numA b) 35)).alloc (.cells (numA 0) 35) = W at *
  obtain ⟨bA, HA⟩ : ∃ bA, Hid (w.heap.size = bA) := ⟨_, rfl⟩
  obtain ⟨bB, HB⟩ : ∃ bB, Hid (bA + 1 = bB) := ⟨_, rfl⟩
  obtain ⟨bR, HR⟩ : ∃ bR, Hid (bB + 1 = bR) := ⟨_, rfl⟩
  have hle : w.heap.size ≤ bR := by have := HA.out; have := HB.out; have := HR.out; omega
  rw [HA.out, HB.out, HR.out] at hK0 ⊢
  go_wp2_with (first
    | refine wpList_load_own (by rfl) 35 (.tmp 2) (by rfl) bA (by rfl) (numA a) _ (hK0.at bA (numA a) 35 (by simp)) Tryd.underlying35 (by rfl) (numA_info a) ?_
    | refine wpList_load_own (by rfl) 35 (.tmp 3) (by rfl) bB (by rfl) (numA b) _ (hK0.at bB (numA b) 35 (by simp)) Tryd.underlying35 (by rfl) (numA_info b) ?_)
  refine (times_any a b ha hb W).mono ?_
  rintro e w1 ⟨⟨o, rfl, ho, he⟩, hB1⟩
  have hK1 := (hK0.below hB1).alloc (A8 o) 55
  have hlo := vl4_lt o (fun i hi => ho i (by omega))
  have hhi := vl4_lt (fun j => o (j + 4)) (fun i hi => ho (i + 4) (by omega))
  have Hab : Hid (vl o 4 + R256 * vl (fun j => o (j + 4)) 4 = a * b) := by
    show _ = _
    rw [← he, vl_split o 4, pow4]
  have hLo : numA (vl o 4) = A4 o := (A4_num o (fun i hi => ho i (by omega))).symm
  have hHi : numA (vl (fun j => o (j + 4)) 4) = A4 (fun j => o (j + 4)) := (A4_num _ (fun i hi => ho (i + 4) (by omega))).symm
  have HLo := show Hid _ from hLo
  have HHi := show Hid _ from hHi
  clear he hLo hHi
  generalize vl o 4 = lo0 at *
  generalize vl (fun j => o (j + 4)) 4 = hi0 at *
  go_upto_region 2 with (refine wpList_store_new (by rfl) 55 (.tmp 5) (.tmp 14) (by rfl) _ (A8 o) (by rfl) (by rfl) infoA8 (by rfl) (A8_one o) (by rfl) ?_)
  generalize w1.alloc (.cells (A8 o) 55) = W1 at *
  generalize w1.heap.size = bT at *
  have oT := hK1.at bT (A8 o) 55 (by simp)
  have c0 := oT.cell (A8_at o 0 (by omega))
  have c1 := oT.cell (A8_at o 1 (by omega))
  have c2 := oT.cell (A8_at o 2 (by omega))
  have c3 := oT.cell (A8_at o 3 (by omega))
  have hK2 := hK1.alloc (numA lo0) 35
  go_upto_region 3 with (refine wpList_store_new (by rfl) 35 (.tmp 6) (.tmp 23) (by rfl) _ (numA lo0) (by rfl) (by rw [HLo.out]; rfl) (numA_info lo0) (lit4_size _ _ _ _ _) (numA_one lo0) (by rfl) ?_)
  clear c0 c1 c2 c3 oT
  have neL := fun p hp => Nat.ne_of_lt (hK1.1 p hp).lt
  have hleL : w.heap.size ≤ W1.heap.size := hK1.2.size
  generalize W1.alloc (.cells (numA lo0) 35) = W2 at *
  generalize W1.heap.size = bL at *
  have oT := hK2.at bT (A8 o) 55 (by simp)
  have c4 := oT.cell (A8_at o 4 (by omega))
  have c5 := oT.cell (A8_at o 5 (by omega))
  have c6 := oT.cell (A8_at o 6 (by omega))
  have c7 := oT.cell (A8_at o 7 (by omega))
  have hK3 := hK2.alloc (numA hi0) 35
  go_upto_region 4 with (refine wpList_store_new (by rfl) 35 (.tmp 7) (.tmp 32) (by rfl) _ (numA hi0) (by rfl) (by rw [HHi.out]; rfl) (numA_info hi0) (lit4_size _ _ _ _ _) (numA_one hi0) (by rfl) ?_)
  clear c4 c5 c6 c7 oT
  have neH := fun p hp => Nat.ne_of_lt (hK2.1 p hp).lt
  have hleH : w.heap.size ≤ W2.heap.size := hK2.2.size
  generalize W2.alloc (.cells (numA hi0) 35) = W3 at *
  generalize W2.heap.size = bH at *
  have n1 : bR ≠ bL := neL (bR, numA 0, 35) (by simp)
  have n2 : bR ≠ bH := neH (bR, numA 0, 35) (by simp)
  have n3 : bL ≠ bH := neH (bL, numA lo0, 35) (by simp)
  have hK4 : Kp [(bL, numA lo0, 35), (bH, numA hi0, 35), (bR, numA 0, 35)] w W3 := hK3.sub (by simp)
  clear hK0 hK1 hK2 hK3 neL neH HLo HHi hB1
  go_wp2_with fail
  go_loopw [8] (fun mm wr => ∃ (m : Bool) (lo hi : Nat), mm = .bool m ∧ lo < R256 ∧ hi < R256 ∧ Hid ((lo + R256 * hi) % pp = r) ∧ (m = false → hi = 0) ∧ Kp [(bL, numA lo, 35), (bH, numA hi, 35), (bR, numA 0, 35)] w wr) (fun mm wr => meas mm (rd wr bL) (rd wr bH))
  case atStart => exact ⟨true, lo0, hi0, rfl, hlo, hhi, by show _ = _; rw [Hab.out, Hr.out], fun e => by (cases e), hK4⟩
  case round =>
    obtain ⟨m, lo, hi, rfl, hlo, hhi, Hm, hmz, hKr⟩ := hrel
    have Hml : Hid (rd wr bL = lo) := rd_own (hKr.at bL (numA lo) 35 (by simp)) hlo
    have Hmh : Hid (rd wr bH = hi) := rd_own (hKr.at bH (numA hi) 35 (by simp)) hhi
    cases m
    · have hi0' := hmz rfl
      subst hi0'
      have Hlo : Hid (lo % pp = r) := by
        show _ = _
        have := Hm.out
        rwa [Nat.mul_zero, Nat.add_zero] at this
      go_upto_region 10 with fail
      go_wp2_with (refine wpList_load_own (by rfl) 35 (.tmp 6) (by rfl) bL (by rfl) (numA lo) _ (hKr.at bL (numA lo) 35 (by simp)) Tryd.underlying35 (by rfl) (numA_info lo) ?_)
      refine (mod_any lo hlo wr).mono ?_
      rintro e w2 ⟨rfl, hB2⟩
      have hK2 := hKr.below hB2
      rw [Hlo.out]
      go_wp2_with (refine wpList_store_own (by rfl) 35 (.tmp 4) (.tmp 61) (by rfl) bR 0 (numA r) (by rfl) (by rfl) (hK2.at bR (numA 0) 35 (by simp)) (Nat.le_refl _) (numA_info r) (numA_one r) (by rfl) ?_)
      refine bodyPost_ret (results_own Tryd.results45 _ _ bR (numA r) _ (by rfl) (own_setCells (hK2.at bR (numA 0) 35 (by simp)) (numA_sizes r 0)) Tryd.underlying35 rfl (numA_info r)) rfl ⟨rfl, ?_⟩
      exact Below.setCells _ _ _ _ hle hK2.2
    · go_upto_region 6 with fail
      go_wp2_with (refine wpList_load_own (by rfl) 35 (.tmp 7) (by rfl) bH (by rfl) (numA hi) _ (hKr.at bH (numA hi) 35 (by simp)) Tryd.underlying35 (by rfl) (numA_info hi) ?_)
      rw [show (#[.int .u64 38, .int .u64 0, .int .u64 0, .int .u64 0] : Array Value) = numA 38 from (numA_word 38 (by decide)).symm]
      refine (times_any hi 38 hhi (by decide) wr).mono ?_
      rintro e w1 ⟨⟨x, rfl, hx, hex⟩, hB1⟩
      have hX := vl4_lt x (fun i hi => hx i (by omega))
      obtain ⟨h4, Hx4⟩ := fold_top x hx hhi hex
      have HXn : Hid (numA (vl x 4) = A4 x) := (A4_num x (fun i hi => hx i (by omega))).symm
      clear hex
      have hK1 := (hKr.below hB1).alloc (A8 x) 55
      have ne1 := fun p hp => Nat.ne_of_lt ((hKr.below hB1).1 p hp).lt
      go_upto_region 7 with (refine wpList_store_new (by rfl) 55 (.tmp 9) (.tmp 36) (by rfl) _ (A8 x) (by rfl) (by rfl) infoA8 (by rfl) (A8_one x) (by rfl) ?_)
      generalize w1.alloc (.cells (A8 x) 55) = W4 at *
      generalize w1.heap.size = bX at *
      have m1 : bL ≠ bX := ne1 (bL, numA lo, 35) (by simp)
      have m2 : bH ≠ bX := ne1 (bH, numA hi, 35) (by simp)
      have m3 : bR ≠ bX := ne1 (bR, numA 0, 35) (by simp)
      have oX := hK1.at bX (A8 x) 55 (by simp)
      have c0 := oX.cell (A8_at x 0 (by omega))
      have c1 := oX.cell (A8_at x 1 (by omega))
      have c2 := oX.cell (A8_at x 2 (by omega))
      have c3 := oX.cell (A8_at x 3 (by omega))
      go_wp2_with (refine wpList_load_own (by rfl) 35 (.tmp 6) (by rfl) bL (by rfl) (numA lo) _ (hK1.at bL (numA lo) 35 (by simp)) Tryd.underlying35 (by rfl) (numA_info lo) ?_)
      rw [show (#[.int .u64 (x 0 : Int), .int .u64 (x 1 : Int), .int .u64 (x 2 : Int), .int .u64 (x 3 : Int)] : Array Value) = numA (vl x 4) from HXn.out.symm]
      generalize vl x 4 = X at *
      clear c0 c1 c2 c3 oX HXn
      refine (add_any lo X hlo hX W4).mono ?_
      rintro e w2 ⟨⟨s, c, rfl, hs, hc, hes⟩, hB2⟩
      have hK2 := (hK1.below hB2).alloc (numA s) 35
      have ne2 := fun p hp => Nat.ne_of_lt ((hK1.below hB2).1 p hp).lt
      go_upto_region 8 with (refine wpList_store_new (by rfl) 35 (.tmp 10) (.tmp 49) (by rfl) _ (numA s) (by rfl) (by rfl) (numA_info s) (lit4_size _ _ _ _ _) (numA_one s) (by rfl) ?_)
      generalize w2.alloc (.cells (numA s) 35) = W5 at *
      generalize w2.heap.size = bS at *
      have m4 : bX ≠ bS := ne2 (bX, A8 x, 55) (by simp)
      have m5 : bL ≠ bS := ne2 (bL, numA lo, 35) (by simp)
      have m6 : bH ≠ bS := ne2 (bH, numA hi, 35) (by simp)
      have m7 : bR ≠ bS := ne2 (bR, numA 0, 35) (by simp)
      obtain ⟨h, Hh⟩ : ∃ h, Hid (x 4 + c = h) := ⟨_, rfl⟩
      have hh : h < 18446744073709551616 := by have := Hh.out; omega
      have Hfold : Hid (lo + 38 * hi = s + R256 * h) := by
        show _ = _
        have h1 := Hx4.out
        have h2 := Hh.out
        rw [← h2, Nat.mul_add]
        omega
      have hw4 : IntKind.u64.wrap ((x 4 : Int) + (c : Int)) = (h : Int) := by
        rw [show (x 4 : Int) + (c : Int) = ((h : Nat) : Int) by have := Hh.out; omega]; exact wrap_small _ hh
      have hK5 : Kp [(bL, numA lo, 35), (bH, numA hi, 35), (bS, numA s, 35), (bX, A8 x, 55), (bR, numA 0, 35)] w W5 := hK2.sub (by simp)
      clear hK1 hK2 ne1 ne2 hes
      refine wp_region_vals 62 (by kernel_rfl) (by kernel_rfl) (by rfl) (valQ bX s c h x) (fun L => Kp [(bL, if L 6 = true then numA s else numA lo, 35), (bH, if L 7 = true then numA h else numA hi, 35), (bS, numA s, 35), (bX, A8 x, 55), (bR, numA 0, 35)] w) hK5.drew ?_ ?_
      · intro L ac wc i' o' hF hLi ho' hd K hK
        rcases i' with _ | _ | _ | _ | _ | _ | _ | _ | i'
        · have ho'' := ho'
          obtain rfl := Option.some.inj ho'
          have f10 : ac.tmps.getD 10 undef = .pointer (some ⟨bS, 0, none⟩) := slotv hF 0 hLi 10 (by kernel_rfl)
          refine step_do ho'' (wanted_free rfl) ?_
          exact wp_load_own 35 (.tmp 10) rfl bS f10 (numA s) _ 35 (hF.j.at bS (numA s) 35 (by simp)) Tryd.underlying35 rfl (numA_info s) (hK _ _ (.inr rfl) hF.j)
        · have ho'' := ho'
          obtain rfl := Option.some.inj ho'
          have f9 : ac.tmps.getD 9 undef = .pointer (some ⟨bX, 0, none⟩) := slotv hF 1 hLi 9 (by kernel_rfl)
          refine step_do ho'' (wanted_free rfl) ?_
          unfold Oper.wp
          go_simp
          exact hK _ _ (.inr rfl) hF.j
        · have ho'' := ho'
          obtain rfl := Option.some.inj ho'
          have f52 : ac.tmps.getD 52 undef = .pointer (some ⟨bX, 4, none⟩) := valv hF hd 1 rfl rfl (by kernel_rfl)
          refine step_do ho'' (wanted_free rfl) ?_
          have cT := (hF.j.at bX (A8 x) 55 (by simp)).cell (A8_at x 4 (by omega))
          unfold Oper.wp
          go_simp
          exact hK _ _ (.inr rfl) hF.j
        · have ho'' := ho'
          obtain rfl := Option.some.inj ho'
          have f11 : ac.tmps.getD 11 undef = .int .u64 (c : Int) := slotv hF 3 hLi 11 (by kernel_rfl)
          refine step_do ho'' (wanted_free rfl) ?_
          unfold Oper.wp
          go_simp
          exact hK _ _ (.inr rfl) hF.j
        · have ho'' := ho'
          obtain rfl := Option.some.inj ho'
          have f53 : ac.tmps.getD 53 undef = .int .u64 (x 4 : Int) := valv hF hd 2 rfl rfl (by kernel_rfl)
          have f54 : ac.tmps.getD 54 undef = .int .u64 (c : Int) := valv hF hd 3 rfl rfl (by kernel_rfl)
          refine step_do ho'' (wanted_free rfl) ?_
          unfold Oper.wp
          go_simp
          exact hK _ _ (.inr rfl) hF.j
        · have ho'' := ho'
          obtain rfl := Option.some.inj ho'
          have f55 : ac.tmps.getD 55 undef = .int .u64 (h : Int) := valv hF hd 4 rfl rfl (by kernel_rfl)
          refine step_do ho'' (wanted_free rfl) ?_
          have q55 := getq f55
          unfold Oper.wp
          go_simp
          exact hK _ _ (.inr (by show _ = Value.agg (numA h); rw [numA_word h hh])) hF.j
        · have ho'' := ho'
          obtain rfl := Option.some.inj ho'
          have f6 : ac.tmps.getD 6 undef = .pointer (some ⟨bL, 0, none⟩) := slotv hF 6 hLi 6 (by kernel_rfl)
          have f51 : ac.tmps.getD 51 undef = .agg (numA s) := valv hF hd 0 rfl rfl (by kernel_rfl)
          refine step_do ho'' (wanted_free rfl) ?_
          have hj := hF.j
          rw [hLi] at hj
          refine wp_store_own 35 (.tmp 6) (.tmp 51) rfl bL (numA s) f6 f51 (hj.at bL (numA lo) 35 (by simp)) rfl (numA_info s) (numA_one s) rfl ?_
          exact hK undef _ (.inl rfl) (Kp.set hj (by simp; omega) hleL rfl)
        · have ho'' := ho'
          obtain rfl := Option.some.inj ho'
          have f7 : ac.tmps.getD 7 undef = .pointer (some ⟨bH, 0, none⟩) := slotv hF 7 hLi 7 (by kernel_rfl)
          have f56 : ac.tmps.getD 56 undef = .agg (numA h) := valv hF hd 5 rfl rfl (by kernel_rfl)
          refine step_do ho'' (wanted_free rfl) ?_
          have hj := hF.j
          rw [hLi] at hj
          refine wp_store_own 35 (.tmp 7) (.tmp 56) rfl bH (numA h) f7 f56 (hj.at bH (numA hi) 35 (by simp)) rfl (numA_info h) (numA_one h) rfl ?_
          exact hK undef _ (.inl rfl) (Kp.set2 hj (by simp; omega) hleH rfl)
        · cases ho'
      · intro L wq hL hKq
        have h6 := hL 6 (by decide)
        have h7 := hL 7 (by decide)
        rw [h6, h7] at hKq
        have hKq : Kp [(bL, numA s, 35), (bH, numA h, 35), (bS, numA s, 35), (bX, A8 x, 55), (bR, numA 0, 35)] w wq := hKq
        simp only [putAll, valQ]
        have cH := (hKq.at bH (numA h) 35 (by simp)).cell (numA_at h 0 (by omega))
        rw [show dig h 0 = h by unfold dig; rw [Nat.pow_zero, Nat.div_one, Nat.mod_eq_of_lt hh]] at cH
        have Rl := rd_own (hKq.at bL (numA s) 35 (by simp)) hs
        have Rh := rd_own (hKq.at bH (numA h) 35 (by simp)) (Nat.lt_trans hh (by decide))
        have HRl := show Hid _ from Rl
        have HRh := show Hid _ from Rh
        clear Rl Rh
        obtain ⟨m', Hm'⟩ : ∃ m', Hid (((h : Int) != 0) = m') := ⟨_, rfl⟩
        have hm' := Hm'.out
        go_wp2_with fail
        refine ⟨⟨m', s, h, rfl, hs, Nat.lt_trans hh (by decide), (fold_mod lo hi s h Hfold.out).trans Hm.out, fun e => ?_, hKq.sub (by simp)⟩, ?_⟩
        · rw [e] at hm'
          have : (h : Int) = 0 := by simpa using hm'
          omega
        · rw [HRl.out, HRh.out, Hml.out, Hmh.out]
          exact meas_less hlo Hfold.out hm'
end Go.Proofs.YtfkcphbbabaefaaDoor
namespace Go.Proofs.YtfkcphbbabaefaaDoor
open Go.RowKit
theorem pow_step0 {a e i n : Nat} (hn : n = a ^ (e / 2 ^ (i + 1)) % pp) (hb : e / 2 ^ i % 2 = 0) : n * n % pp = a ^ (e / 2 ^ i) % pp := by
  have h : e / 2 ^ i = e / 2 ^ (i + 1) * 2 := by
    have : e / 2 ^ (i + 1) = e / 2 ^ i / 2 := by rw [Nat.pow_succ, Nat.div_div_eq_div_mul]
    omega
  rw [h, Nat.pow_mul, Nat.pow_two, hn, ← Nat.mul_mod]
theorem pow_step1 {a e i n : Nat} (hn : n = a ^ (e / 2 ^ (i + 1)) % pp) (hb : e / 2 ^ i % 2 = 1) : n * n % pp * a % pp = a ^ (e / 2 ^ i) % pp := by
  have h : e / 2 ^ i = e / 2 ^ (i + 1) * 2 + 1 := by
    have : e / 2 ^ (i + 1) = e / 2 ^ i / 2 := by rw [Nat.pow_succ, Nat.div_div_eq_div_mul]
    omega
  rw [h, Nat.pow_succ, Nat.pow_mul, Nat.pow_two, hn]
  generalize a ^ (e / 2 ^ (i + 1)) = x
  rw [← Nat.mul_mod, Nat.mod_mul_mod]
theorem pow_start (a e : Nat) (he : e < R256) : 1 = a ^ (e / 2 ^ 256) % pp := by
  rw [Nat.div_eq_of_lt (show e < 2 ^ 256 from he), Nat.pow_zero, one_mod]
set_option maxRecDepth 100000 in
set_option maxHeartbeats 8000000 in
theorem pow_any (a e : Nat) (ha : a < R256) (he : e < R256) (w : World) : Calls Tryd.prog 76 #[.agg (numA a), .agg (numA e)] w fun x w' => x = .returned (.agg (numA (a ^ e % pp))) ∧ Below w.heap.size w w' := by
  obtain ⟨r, Hr⟩ : ∃ r, Hid (a ^ e % pp = r) := ⟨_, rfl⟩
  rw [Hr.out]
  have hz := (zero_of_info zeroLit).1
  go_enter Tryd.func76, Tryd.ntmps76
  go_upto_region 1 with fail
  have hK0 := (((Kp.nil w).alloc (numA a) 35).alloc (numA e) 35).alloc (numA 0) 35
  rw [World.size_alloc, World.size_alloc] at hK0
  rw [show (#[.int .u64 0, .int .u64 0, .int .u64 0, .int .u64 0] : Array Value) = numA 0 from rfl]
  generalize ((w.alloc (.cells (numA a) 35)).alloc (.cells (numA e) 35)).alloc (.cells (numA 0) 35) = W at *
  obtain ⟨bA, HA⟩ : ∃ bA, Hid (w.heap.size = bA) := ⟨_, rfl⟩
  obtain ⟨bE, HE⟩ : ∃ bE, Hid (bA + 1 = bE) := ⟨_, rfl⟩
  obtain ⟨bR, HR⟩ : ∃ bR, Hid (bE + 1 = bR) := ⟨_, rfl⟩
  have hle : w.heap.size ≤ bR := by have := HA.out; have := HE.out; have := HR.out; omega
  rw [HA.out, HE.out, HR.out] at hK0 ⊢
  have hK1 := hK0.alloc (numA 1) 35
  have ne1 := fun p hp => Nat.ne_of_lt (hK0.1 p hp).lt
  have hle5 := hK0.2.size
  go_upto_region 2 with (refine wpList_store_new (by rfl) 35 (.tmp 5) (.tmp 7) (by rfl) _ (numA 1) (by rfl) (by rw [numA_word 1 (by decide)]; rfl) (numA_info 1) (lit4_size _ _ _ _ _) (numA_one 1) (by rfl) ?_)
  generalize W.alloc (.cells (numA 1) 35) = W1 at *
  generalize W.heap.size = b5 at *
  have m1 : bR ≠ b5 := ne1 (bR, numA 0, 35) (by simp)
  have m2 : bE ≠ b5 := ne1 (bE, numA e, 35) (by simp)
  have m3 : bA ≠ b5 := ne1 (bA, numA a, 35) (by simp)
  clear ne1 hK0
  go_wp2_with fail
  go_loopw [6] (fun ii wr => ∃ (j n : Nat), j ≤ 256 ∧ ii = .int .i64 ((j : Int) - 1) ∧ n < R256 ∧ Hid (n = a ^ (e / 2 ^ j) % pp) ∧ Kp [(b5, numA n, 35), (bR, numA 0, 35), (bE, numA e, 35), (bA, numA a, 35)] w wr) (fun ii _ => (intOf ii + 1).toNat)
  case atStart => exact ⟨256, 1, by omega, rfl, by decide, pow_start a e he, hK1⟩
  case round =>
    obtain ⟨j, n, hj, rfl, hn, Hn, hKr⟩ := hrel
    cases j with
    | zero =>
      rw [show (((0 : Nat) : Int) - 1) = -1 from rfl]
      have Hend : Hid (n = r) := by
        show _ = _
        rw [Hn.out, Nat.pow_zero, Nat.div_one, Hr.out]
      go_upto_region 8 with fail
      go_wp2_with (first
        | refine wpList_load_own (by rfl) 35 (.tmp 5) (by rfl) b5 (by rfl) (numA n) _ (hKr.at b5 (numA n) 35 (by simp)) Tryd.underlying35 (by rfl) (numA_info n) ?_
        | refine wpList_store_own (by rfl) 35 (.tmp 4) (.tmp 28) (by rfl) bR 0 (numA n) (by rfl) (by rfl) (hKr.at bR (numA 0) 35 (by simp)) (Nat.le_refl _) (numA_info n) (numA_one n) (by rfl) ?_)
      refine bodyPost_ret (results_own Tryd.results76 _ _ bR (numA n) _ (by rfl) (own_setCells (hKr.at bR (numA 0) 35 (by simp)) (numA_sizes n 0)) Tryd.underlying35 rfl (numA_info n)) rfl ⟨by rw [Hend.out], ?_⟩
      exact Below.setCells _ _ _ _ hle hKr.2
    | succ i =>
      rw [show (((i + 1 : Nat) : Int) - 1) = (i : Int) by omega]
      have hi0 : (0 : Int) ≤ (i : Int) := by omega
      have hi1 : (i : Int) < 256 := by omega
      go_upto_region 5 with fail
      go_wp2_with (refine wpList_load_own (by rfl) 35 (.tmp 5) (by rfl) b5 (by rfl) (numA n) _ (hKr.at b5 (numA n) 35 (by simp)) Tryd.underlying35 (by rfl) (numA_info n) ?_)
      refine (fmul_any n n hn hn wr).mono ?_
      rintro x w1 ⟨rfl, hB1⟩
      have hK2 := hKr.below hB1
      obtain ⟨q, Hq⟩ : ∃ q, Hid (n * n % pp = q) := ⟨_, rfl⟩
      have hq : q < R256 := by rw [← Hq.out]; exact lt_of_mod
      rw [Hq.out]
      have hK3 := hK2.set (A' := numA q) (by simp; omega) hle5 (numA_sizes q n)
      go_upto_region 6 with (refine wpList_store_own (by rfl) 35 (.tmp 5) (.tmp 14) (by rfl) b5 0 (numA q) (by rfl) (by rfl) (hK2.at b5 (numA n) 35 (by simp)) (Nat.le_refl _) (numA_info q) (numA_one q) (by rfl) ?_)
      generalize w1.setCells b5 0 (numA q).toList = W2 at *
      clear hK2 hB1
      have hdv : (i : Int).tdiv 64 = ((i / 64 : Nat) : Int) := by rw [Int.tdiv_eq_ediv_of_nonneg (by omega)]; omega
      have hmd : (i : Int).tmod 64 = ((i % 64 : Nat) : Int) := by rw [Int.tmod_eq_emod_of_nonneg (by omega)]; omega
      have hd4 : i / 64 < 4 := by omega
      have cE := (hK3.at bE (numA e) 35 (by simp)).cell (numA_at e (i / 64) hd4)
      have hbit := bit_u64 e i
      have hd40 : (0 : Int) ≤ ((i / 64 : Nat) : Int) := by omega
      have hd41 : ((i / 64 : Nat) : Int) < 4 := by omega
      have hm0 : (0 : Int) ≤ ((i % 64 : Nat) : Int) := by omega
      have hm1 : ((i % 64 : Nat) : Int) < 64 := by omega
      generalize dig e (i / 64) = d at *
      generalize i / 64 = D at *
      generalize i % 64 = M at *
      have hb2 : e / 2 ^ i % 2 = 0 ∨ e / 2 ^ i % 2 = 1 := by omega
      rcases hb2 with hb | hb
      · have Hst := show Hid _ from pow_step0 Hn.out hb
        rw [hb] at hbit
        clear hb
        go_wp2_with fail
        exact ⟨⟨i, q, by omega, rfl, hq, by show _ = _; rw [← Hq.out]; exact Hst.out, hK3⟩, by simp [intOf]⟩
      · have Hst := show Hid _ from pow_step1 Hn.out hb
        rw [hb] at hbit
        clear hb
        go_upto_region 7 with fail
        go_wp2_with (first
          | refine wpList_load_own (by rfl) 35 (.tmp 5) (by rfl) b5 (by rfl) (numA q) _ (hK3.at b5 (numA q) 35 (by simp)) Tryd.underlying35 (by rfl) (numA_info q) ?_
          | refine wpList_load_own (by rfl) 35 (.tmp 2) (by rfl) bA (by rfl) (numA a) _ (hK3.at bA (numA a) 35 (by simp)) Tryd.underlying35 (by rfl) (numA_info a) ?_)
        refine (fmul_any q a hq ha W2).mono ?_
        rintro x w3 ⟨rfl, hB3⟩
        have hK4 := hK3.below hB3
        obtain ⟨q2, Hq2⟩ : ∃ q2, Hid (q * a % pp = q2) := ⟨_, rfl⟩
        have hq2 : q2 < R256 := by rw [← Hq2.out]; exact lt_of_mod
        rw [Hq2.out]
        have hK5 := hK4.set (A' := numA q2) (by simp; omega) hle5 (numA_sizes q2 q)
        go_wp2_with (refine wpList_store_own (by rfl) 35 (.tmp 5) (.tmp 27) (by rfl) b5 0 (numA q2) (by rfl) (by rfl) (hK4.at b5 (numA q) 35 (by simp)) (Nat.le_refl _) (numA_info q2) (numA_one q2) (by rfl) ?_)
        exact ⟨⟨i, q2, by omega, rfl, hq2, by show _ = _; rw [← Hq2.out, ← Hq.out]; exact Hst.out, hK5⟩, by simp [intOf]⟩
set_option maxRecDepth 100000 in
set_option maxHeartbeats 4000000 in
theorem inv_any (a : Nat) (ha : a < R256) (w : World) : Calls Tryd.prog 48 #[.agg (numA a)] w fun x w' => x = .returned (.agg (numA (finv a))) ∧ Below w.heap.size w w' := by
  obtain ⟨r, Hr⟩ : ∃ r, Hid (finv a = r) := ⟨_, rfl⟩
  rw [Hr.out]
  obtain ⟨e, He⟩ : ∃ e, Hid (pp = e + 2) := ⟨pp - 2, by show _ = _; exact (Nat.sub_add_cancel (by decide)).symm⟩
  have he : e < R256 := by have h1 := He.out; have h2 : pp < R256 := by decide
                           omega
  have Hend : Hid (a ^ e % pp = r) := by
    show _ = _
    rw [← Hr.out, finv, show pp - 2 = e from by rw [He.out]; exact Nat.add_sub_cancel e 2]
  have hz := (zero_of_info zeroLit).1
  go_enter Tryd.func48, Tryd.ntmps48
  go_upto_region 1 with fail
  have hK0 := ((Kp.nil w).alloc (numA a) 35).alloc (numA 0) 35
  rw [World.size_alloc] at hK0
  rw [show (#[.int .u64 0, .int .u64 0, .int .u64 0, .int .u64 0] : Array Value) = numA 0 from rfl]
  generalize (w.alloc (.cells (numA a) 35)).alloc (.cells (numA 0) 35) = W at *
  obtain ⟨bA, HA⟩ : ∃ bA, Hid (w.heap.size = bA) := ⟨_, rfl⟩
  obtain ⟨bR, HR⟩ : ∃ bR, Hid (bA + 1 = bR) := ⟨_, rfl⟩
  have hle : w.heap.size ≤ bR := by have := HA.out; have := HR.out; omega
  rw [HA.out, HR.out] at hK0 ⊢
  go_wp2_with fail
  refine (P_any W).mono ?_
  rintro x w1 ⟨rfl, hB1⟩
  have hK1 := hK0.below hB1
  go_wp2_with fail
  rw [show (#[.int .u64 2, .int .u64 0, .int .u64 0, .int .u64 0] : Array Value) = numA 2 from (numA_word 2 (by decide)).symm]
  refine (sub_big (by decide) (by decide) He.out w1).mono ?_
  rintro x w2 ⟨rfl, hB2⟩
  have hK2 := hK1.below hB2
  have hK3 := hK2.alloc (numA e) 35
  go_upto_region 2 with (refine wpList_store_new (by rfl) 35 (.tmp 3) (.tmp 9) (by rfl) _ (numA e) (by rfl) (by rfl) (numA_info e) (lit4_size _ _ _ _ _) (numA_one e) (by rfl) ?_)
  generalize w2.alloc (.cells (numA e) 35) = W3 at *
  generalize w2.heap.size = b3 at *
  clear hK0 hK1 hK2
  go_wp2_with (first
    | refine wpList_load_own (by rfl) 35 (.tmp 1) (by rfl) bA (by rfl) (numA a) _ (hK3.at bA (numA a) 35 (by simp)) Tryd.underlying35 (by rfl) (numA_info a) ?_
    | refine wpList_load_own (by rfl) 35 (.tmp 3) (by rfl) b3 (by rfl) (numA e) _ (hK3.at b3 (numA e) 35 (by simp)) Tryd.underlying35 (by rfl) (numA_info e) ?_)
  refine (pow_any a e ha he W3).mono ?_
  rintro x w4 ⟨rfl, hB4⟩
  have hK4 := hK3.below hB4
  rw [Hend.out]
  go_wp2_with (refine wpList_store_own (by rfl) 35 (.tmp 2) (.tmp 13) (by rfl) bR 0 (numA r) (by rfl) (by rfl) (hK4.at bR (numA 0) 35 (by simp)) (Nat.le_refl _) (numA_info r) (numA_one r) (by rfl) ?_)
  refine bodyPost_ret (results_own Tryd.results48 _ _ bR (numA r) _ (by rfl) (own_setCells (hK4.at bR (numA 0) 35 (by simp)) (numA_sizes r 0)) Tryd.underlying35 rfl (numA_info r)) rfl ⟨rfl, ?_⟩
  exact Below.setCells _ _ _ _ hle hK4.2
end Go.Proofs.YtfkcphbbabaefaaDoor
namespace Go.Proofs.YtfkcphbbabaefaaDoor
open Go.RowKit
theorem dig_half (a k : Nat) : dig (a / 2) k = dig a k / 2 + dig a (k + 1) % 2 * 9223372036854775808 := by
  unfold dig
  rw [Nat.div_div_eq_div_mul, Nat.mul_comm 2, ← Nat.div_div_eq_div_mul, Nat.pow_succ, ← Nat.div_div_eq_div_mul]
  generalize a / 18446744073709551616 ^ k = x
  omega
theorem dig_top {a : Nat} (h : a < R256) : dig a 4 = 0 := by
  unfold dig
  rw [pow4, Nat.div_eq_of_lt h, Nat.zero_mod]
theorem or_join (x y : Nat) (hx : x < 18446744073709551616) : bits .or .u64 ((x / 2 : Nat) : Int) ((y % 2 * 9223372036854775808 : Nat) : Int) = ((x / 2 + y % 2 * 9223372036854775808 : Nat) : Int) := by
  rw [u64_or_nat _ _ (by omega) (by omega), Nat.or_comm, nat_join 63 (y % 2 * 9223372036854775808) (x / 2) (Nat.mul_mod_left _ _) (by omega), Nat.add_comm]
theorem shl63 (y : Nat) : IntKind.u64.wrap ((y : Int) * 9223372036854775808) = ((y % 2 * 9223372036854775808 : Nat) : Int) := by
  simp [IntKind.wrap, IntKind.bits, IntKind.signed]; omega
set_option maxRecDepth 100000 in
set_option maxHeartbeats 8000000 in
theorem half_any (a : Nat) (ha : a < R256) (w : World) : Calls Tryd.prog 77 #[.agg (numA a)] w fun x w' => x = .returned (.agg (numA (a / 2))) ∧ Below w.heap.size w w' := by
  have hz := (zero_of_info zeroNum).1
  go_enter Tryd.func77, Tryd.ntmps77
  go_wp2_with fail
  have hK0 := (((Kp.nil w).alloc (numA a) 35).alloc (A4 fun _ => 0) 35).alloc (A4 fun _ => 0) 35
  rw [World.size_alloc, World.size_alloc] at hK0
  generalize ((w.alloc (.cells (numA a) 35)).alloc (.cells (A4 fun _ => 0) 35)).alloc (.cells (A4 fun _ => 0) 35) = W at *
  obtain ⟨bA, HA⟩ : ∃ bA, Hid (w.heap.size = bA) := ⟨_, rfl⟩
  obtain ⟨bR, HR⟩ : ∃ bR, Hid (bA + 1 = bR) := ⟨_, rfl⟩
  obtain ⟨bO, HO⟩ : ∃ bO, Hid (bR + 1 = bO) := ⟨_, rfl⟩
  have hle : w.heap.size ≤ bR := by have := HA.out; have := HR.out; omega
  have hleO : w.heap.size ≤ bO := by have := HO.out; omega
  have n1 : bA ≠ bO := by have := HR.out; have := HO.out; omega
  have n2 : bR ≠ bO := by have := HO.out; omega
  rw [HA.out, HR.out, HO.out] at hK0 ⊢
  go_loopw [4] (fun ii wr => ∃ (k : Nat) (h : Nat → Nat), k ≤ 4 ∧ ii = .int .i64 (k : Int) ∧ (∀ j, j < k → h j = dig (a / 2) j) ∧ Kp [(bO, A4 h, 35), (bR, A4 fun _ => 0, 35), (bA, numA a, 35)] w wr) (fun ii _ => 4 - (intOf ii).toNat)
  case atStart => exact ⟨0, fun _ => 0, by omega, rfl, fun j hj => by omega, hK0⟩
  case round =>
    obtain ⟨k, h, hk, rfl, hh, hKr⟩ := hrel
    have hk0 : (0 : Int) ≤ (k : Int) := by omega
    by_cases hlt : k < 4
    · have hki : (k : Int) < 4 := by omega
      have cA := (hKr.at bA (numA a) 35 (by simp)).cell (numA_at a k hlt)
      have cO := (hKr.at bO (A4 h) 35 (by simp)).cell (A4_at h k hlt)
      have fO := (hKr.at bO (A4 h) 35 (by simp)).frozen k
      have hd := dig_lt a k
      have hdv : ((dig a k : Nat) : Int) / 2 = ((dig a k / 2 : Nat) : Int) := by omega
      have Hst := show Hid _ from dig_half a k
      have hK1 := Kp.setCell (i := k) (v := .int .u64 ((dig a k / 2 : Nat) : Int)) hKr (by simp; omega) hleO
      rw [A4_set h k _ hlt] at hK1
      by_cases h3 : k < 3
      · have hk3 : (k : Int) < 3 := by omega
        have cA1 := (hK1.at bA (numA a) 35 (by simp)).cell (numA_at a (k + 1) (by omega))
        have cO1 := (hK1.at bO (A4 (upd h k (dig a k / 2))) 35 (by simp)).cell (A4_at _ k hlt)
        rw [upd_same] at cO1
        have fO1 := (hK1.at bO (A4 (upd h k (dig a k / 2))) 35 (by simp)).frozen k
        have hs := shl63 (dig a (k + 1))
        have hor := or_join (dig a k) (dig a (k + 1)) hd
        have hk1 : (k : Int) + 1 < 4 := by omega
        have hk10 : (0 : Int) ≤ (k : Int) + 1 := by omega
        have hkt : ((k : Int) + 1).toNat = k + 1 := by omega
        generalize dig a (k + 1) = d1 at *
        generalize dig a k = d at *
        rw [← Hst.out] at hor
        generalize hE : dig (a / 2) k = E at hor
        have HEE := show Hid _ from hE
        clear hE
        generalize d1 % 2 * 9223372036854775808 = sh at *
        generalize d / 2 = dh at *
        go_upto_region 7 with fail
        generalize hW2 : wr.setCell ⟨bO, k, none⟩ (.int .u64 (dh : Int)) = W2 at *
        clear hW2
        go_region
        go_wp2_with fail
        have hK2 := Kp.setCell (i := k) (v := .int .u64 (E : Int)) hK1 (by simp; omega) hleO
        rw [A4_set _ k _ hlt] at hK2
        refine ⟨⟨k + 1, upd (upd h k dh) k E, by omega, by go_num, fun j hj => ?_, hK2.below ((Below.refl _ _).drew)⟩, by simp [intOf]; omega⟩
        by_cases e : j = k
        · rw [e, upd_same]; exact HEE.out.symm
        · rw [upd_other _ _ _ _ e, upd_other _ _ _ _ e]; exact hh j (by omega)
      · have hk3 : ¬ (k : Int) < 3 := by omega
        have Ht : Hid (dig (a / 2) k = dig a k / 2) := by
          show _ = _
          have hk3' : k = 3 := by omega
          rw [Hst.out, hk3', dig_top ha, Nat.zero_mod, Nat.zero_mul, Nat.add_zero]
        clear Hst
        generalize dig a k / 2 = dh at *
        generalize dig a k = d at *
        go_wp2_with fail
        refine ⟨⟨k + 1, upd h k dh, by omega, by go_num, fun j hj => ?_, hK1⟩, by simp [intOf]; omega⟩
        by_cases e : j = k
        · rw [e, upd_same]; exact Ht.out.symm
        · rw [upd_other _ _ _ _ e]; exact hh j (by omega)
    · have hki : ¬ (k : Int) < 4 := by omega
      have He : Hid (A4 h = numA (a / 2)) := A4_congr fun i hi => hh i (by omega)
      have hinf : (Tryd.prog.info? 35).map (·.size) = some (A4 h).size := infoNum
      go_upto_region 8 with fail
      go_wp2_with (first
        | refine wpList_load_own (by rfl) 35 (.tmp 3) (by rfl) bO (by rfl) (A4 h) _ (hKr.at bO (A4 h) 35 (by simp)) Tryd.underlying35 (by rfl) hinf ?_
        | refine wpList_store_own (by rfl) 35 (.tmp 2) (.tmp 27) (by rfl) bR 0 (A4 h) (by rfl) (by rfl) (hKr.at bR (A4 fun _ => 0) 35 (by simp)) (Nat.le_refl _) hinf (A4_one h) (by rfl) ?_)
      refine bodyPost_ret (results_own Tryd.results77 _ _ bR (A4 h) _ (by rfl) (own_setCells (hKr.at bR (A4 fun _ => 0) 35 (by simp)) rfl) Tryd.underlying35 rfl hinf) rfl ⟨by rw [He.out], ?_⟩
      exact Below.setCells _ _ _ _ hle hKr.2
end Go.Proofs.YtfkcphbbabaefaaDoor
namespace Go.Proofs.YtfkcphbbabaefaaDoor
open Go.RowKit
theorem num_eq (x y : Nat) (hx : x < R256) (hy : y < R256) (w : World) : (Op.equalIn 10000 35 (.agg (numA x)) (.agg (numA y))).run Tryd.prog w = .ok (decide (x = y)) w := by
  have h := run_equalIn_ints (P := Tryd.prog) w 9998 35 33 4 .u64 Tryd.underlying35 Tryd.underlying33 (by kernel_rfl) [(dig x 0 : Int), (dig x 1 : Int), (dig x 2 : Int), (dig x 3 : Int)] [(dig y 0 : Int), (dig y 1 : Int), (dig y 2 : Int), (dig y 3 : Int)] rfl rfl
  have e : ([(dig x 0 : Int), (dig x 1 : Int), (dig x 2 : Int), (dig x 3 : Int)] == [(dig y 0 : Int), (dig y 1 : Int), (dig y 2 : Int), (dig y 3 : Int)]) = decide (x = y) := by
    by_cases hxy : x = y
    · rw [hxy, decide_eq_true rfl]; simp
    · rw [decide_eq_false hxy]
      rw [beq_eq_false_iff_ne]
      intro hl
      apply hxy
      simp only [List.cons.injEq, and_true] at hl
      obtain ⟨h0, h1, h2, h3⟩ := hl
      rw [← vl_num x hx, ← vl_num y hy]
      refine vl_congr 4 fun i hi => ?_
      rcases i with _ | _ | _ | _ | i
      · exact Int.ofNat.inj h0
      · exact Int.ofNat.inj h1
      · exact Int.ofNat.inj h2
      · exact Int.ofNat.inj h3
      · omega
  rw [e] at h
  exact h
theorem half_at {a b : Nat} (ha : a < R256) (hb : a / 2 = b) (w : World) : Calls Tryd.prog 77 #[.agg (numA a)] w fun x w' => x = .returned (.agg (numA b)) ∧ Below w.heap.size w w' := by
  rw [← hb]; exact half_any a ha w
theorem pow_at {a e b : Nat} (ha : a < R256) (he : e < R256) (hb : a ^ e % pp = b) (w : World) : Calls Tryd.prog 76 #[.agg (numA a), .agg (numA e)] w fun x w' => x = .returned (.agg (numA b)) ∧ Below w.heap.size w w' := by
  rw [← hb]; exact pow_any a e ha he w
theorem mul_at {a e b : Nat} (ha : a < R256) (he : e < R256) (hb : a * e % pp = b) (w : World) : Calls Tryd.prog 45 #[.agg (numA a), .agg (numA e)] w fun x w' => x = .returned (.agg (numA b)) ∧ Below w.heap.size w w' := by
  rw [← hb]; exact fmul_any a e ha he w
theorem add_fit {a b s : Nat} (ha : a < R256) (hb : b < R256) (hs : a + b = s) (h : s < R256) (w : World) :
    Calls Tryd.prog 74 #[.agg (numA a), .agg (numA b)] w fun e w' => e = .returned (.tuple #[.agg (numA s), .int .u64 0]) ∧ Below w.heap.size w w' := by
  refine (add_any a b ha hb w).mono ?_
  rintro e w' ⟨⟨d, c, rfl, hd, hc, he⟩, hB⟩
  have : c = 0 ∨ c = 1 := by omega
  rcases this with rfl | rfl
  · obtain rfl : d = s := by omega
    exact ⟨rfl, hB⟩
  · omega
theorem odd_word (x : Nat) : bits .and .u64 (dig x 0 : Int) 1 = ((x % 2 : Nat) : Int) := by
  rw [and1_u64 _ (dig_lt x 0)]
  unfold dig
  rw [Nat.pow_zero, Nat.div_one]
  omega
theorem neg_of (x : Nat) (hx : x < pp) (h2 : x % 2 = 1) : (0 % pp + pp - x % pp) % pp = pp - x := by
  rw [Nat.zero_mod, Nat.zero_add, Nat.mod_eq_of_lt hx, Nat.mod_eq_of_lt]
  have : 0 < x := by omega
  have := pp_pos
  omega
def rootVo : Option Nat → Value
  | some z => .tuple #[.agg (numA z), .bool true]
  | none => .tuple #[.agg (numA 0), .bool false]
def rootV (a : Nat) : Value := rootVo (froot a)
def rootOf (r a : Nat) : Option Nat := if r * r % pp = a % pp then some (evenOf r) else if (r * fi % pp) * (r * fi % pp) % pp = a % pp then some (evenOf (r * fi % pp)) else none
theorem froot_of (a : Nat) : froot a = rootOf (a ^ ((pp + 3) / 8) % pp) a := by
  unfold froot
  generalize a ^ ((pp + 3) / 8) % pp = r
  exact Eq.refl _
theorem rootV_first {a r y m : Nat} (h1 : a ^ ((pp + 3) / 8) % pp = r) (h2 : r * r % pp = y) (hm : a % pp = m) (hym : y = m) : rootV a = .tuple #[.agg (numA (evenOf r)), .bool true] := by
  have : froot a = some (evenOf r) := by
    rw [froot_of, h1]
    unfold rootOf
    rw [if_pos (by rw [h2, hm, hym])]
  unfold rootV
  rw [this, rootVo]
theorem rootV_second {a r y m x z : Nat} (h1 : a ^ ((pp + 3) / 8) % pp = r) (h2 : r * r % pp = y) (hm : a % pp = m) (hym : ¬ y = m) (hx : r * fi % pp = x) (hz : x * x % pp = z) (hzm : z = m) : rootV a = .tuple #[.agg (numA (evenOf x)), .bool true] := by
  have : froot a = some (evenOf x) := by
    rw [froot_of, h1]
    unfold rootOf
    rw [if_neg (by rw [h2, hm]; exact hym), if_pos (by rw [hx, hz, hm, hzm]), hx]
  unfold rootV
  rw [this, rootVo]
theorem rootV_none {a r y m x z : Nat} (h1 : a ^ ((pp + 3) / 8) % pp = r) (h2 : r * r % pp = y) (hm : a % pp = m) (hym : ¬ y = m) (hx : r * fi % pp = x) (hz : x * x % pp = z) (hzm : ¬ z = m) : rootV a = .tuple #[.agg (numA 0), .bool false] := by
  have : froot a = none := by
    rw [froot_of, h1]
    unfold rootOf
    rw [if_neg (by rw [h2, hm]; exact hym), if_neg (by rw [hx, hz, hm]; exact hzm)]
  unfold rootV
  rw [this, rootVo]
def factR (m e0 e1 e2 e3 r : Nat) : Nat → Value → Prop
  | 0, v => v = .agg (numA m)
  | 1, v => v = .agg (numA e0)
  | 2, v => v = .agg (numA e1)
  | 3, v => v = .agg (numA e2)
  | 4, v => v = .agg (numA e3)
  | 5, v => v = .agg (numA r)
  | _, v => ∃ g, v = .pointer (some ⟨g, 0, none⟩)
def valX (x y m : Nat) : Nat → Value
  | 2 => .agg (numA y)
  | 3 => .agg (numA m)
  | 4 => .bool (!decide (y = m))
  | _ => .agg (numA x)
def valY (r g0 g1 g2 x : Nat) : Nat → Value
  | 0 => .agg (numA r)
  | 1 => .agg (numA 2)
  | 2 => .agg (numA g0)
  | 3 => .agg (numA g1)
  | 4 => .agg (numA g2)
  | 5 => .agg (numA fi)
  | _ => .agg (numA x)
end Go.Proofs.YtfkcphbbabaefaaDoor
