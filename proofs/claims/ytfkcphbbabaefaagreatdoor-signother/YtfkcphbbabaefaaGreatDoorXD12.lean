/- Of the texts E8: what the card of this claim reaches. -/
import Derived.Test.YtfkcphbbabaefaaGreatDoorXD10
import Derived.Test.YtfkcphbbabaefaaGreatDoorXD11
namespace Go.Proofs.YtfkcphbbabaefaaGreatDoor
open Go.RowKit
theorem vl_split (o : Nat → Nat) : ∀ n, vl o (n + 4) = vl o 4 + 18446744073709551616 ^ 4 * vl (fun j => o (j + 4)) n
  | 0 => by rw [Nat.zero_add, vl_first, Nat.mul_zero, Nat.add_zero]
  | n + 1 => by
    have e1 : vl o (n + 1 + 4) = vl o (n + 4) + o (n + 4) * 18446744073709551616 ^ (n + 4) := by rw [Nat.add_right_comm n 1 4]; exact Eq.refl _
    have e2 : vl (fun j => o (j + 4)) (n + 1) = vl (fun j => o (j + 4)) n + o (n + 4) * 18446744073709551616 ^ n := Eq.refl _
    rw [e1, e2, vl_split o n, Nat.mul_add, Nat.pow_add, Nat.add_assoc, Nat.mul_comm (18446744073709551616 ^ n), Nat.mul_left_comm (o (n + 4))]
def rdA (A : Array Value) : Nat := vl (fun i => (intOf (A.getD i undef)).toNat) 4
def rd (w : World) (b : Nat) : Nat := match w.heap[b]? with
  | some (.cells A _ _) => rdA A
  | _ => 0
theorem rdA_num (n : Nat) (h : n < R256) : rdA (numA n) = n := by
  have : rdA (numA n) = vl (dig n) 4 := by
    unfold rdA
    refine vl_congr 4 fun i hi => ?_
    have := numA_at n i hi
    rw [Array.getD_eq_getD_getElem?, this]
    simp [intOf]
  rw [this, vl_num n h]
theorem rd_own {w : World} {b n : Nat} {t : TypeId} (ho : Own w b (numA n) t) (h : n < R256) : rd w b = n := by
  have ho' : w.heap[b]? = some (.cells (numA n) t (0, 0)) := ho
  unfold rd
  rw [ho']
  exact rdA_num n h
def meas (v : Value) (x y : Nat) : Nat := match v with
  | .bool true => x + R256 * y + 1
  | _ => 0
theorem meas_less {lo hi s h : Nat} {m' : Bool} (hlo : lo < R256) (e : lo + 38 * hi = s + R256 * h) (hm : ((h : Int) != 0) = m') : meas (.bool m') s h < meas (.bool true) lo hi := by
  have h38 : 38 < R256 := by decide
  cases m' with
  | false => show 0 < lo + R256 * hi + 1; exact Nat.succ_pos _
  | true =>
    show s + R256 * h + 1 < lo + R256 * hi + 1
    rw [← e]
    have hh : h ≠ 0 := fun z => by rw [z] at hm; simp at hm
    generalize R256 = R at *
    have hhi : 0 < hi := by
      rcases Nat.eq_zero_or_pos hi with z | z
      · exfalso
        rw [z, Nat.mul_zero, Nat.add_zero] at e
        have : R * 1 ≤ R * h := Nat.mul_le_mul_left _ (by omega)
        omega
      · exact z
    have := Nat.mul_lt_mul_of_pos_right h38 hhi
    omega
theorem Kp.set2 {l : List (Nat × Array Value × TypeId)} {w0 w : World} {b : Nat} {A A' : Array Value} {t : TypeId} {q : Nat × Array Value × TypeId} (h : Kp (q :: (b, A, t) :: l) w0 w) (hl : ∀ p ∈ q :: l, p.1 ≠ b) (hb : w0.heap.size ≤ b) (hs : A'.size = A.size) : Kp (q :: (b, A', t) :: l) w0 (w.setCells b 0 A'.toList) := by
  have h1 : Kp ((b, A, t) :: q :: l) w0 w := h.sub (fun p hp => by
    simp only [List.mem_cons] at hp ⊢
    rcases hp with h | h | h
    · exact .inr (.inl h)
    · exact .inl h
    · exact .inr (.inr h))
  exact (h1.set hl hb hs).sub (fun p hp => by
    simp only [List.mem_cons] at hp ⊢
    rcases hp with h | h | h
    · exact .inr (.inl h)
    · exact .inl h
    · exact .inr (.inr h))
theorem fold_top (x : Nat → Nat) (hx : ∀ i, i < 8 → x i < 18446744073709551616) {hi : Nat} (hhi : hi < R256) (e : vl x 8 = hi * 38) : x 4 < 38 ∧ Hid (vl x 4 + R256 * x 4 = hi * 38) := by
  have h1 := vl_split x 4
  have h2 : vl x (4 + 4) = hi * 38 := e
  rw [h2, pow4] at h1
  have h3 := dig_vl (fun j => x (j + 4)) 4 (fun i hi => hx (i + 4) (by omega)) 0 (by omega)
  have h4 : vl (fun j => x (j + 4)) 4 < 38 := by
    rcases Nat.lt_or_ge (vl (fun j => x (j + 4)) 4) 38 with h | h
    · exact h
    · exfalso
      have : R256 * 38 ≤ R256 * vl (fun j => x (j + 4)) 4 := Nat.mul_le_mul_left _ h
      omega
  generalize vl (fun j => x (j + 4)) 4 = y at *
  have h5 : x 4 = y := by
    rw [← h3]
    unfold dig
    rw [Nat.pow_zero, Nat.div_one, Nat.mod_eq_of_lt (by omega)]
  rw [h5]
  exact ⟨h4, h1.symm⟩
def valQ (bT s c h : Nat) (x : Nat → Nat) : Nat → Value
  | 0 => .agg (numA s)
  | 1 => .pointer (some ⟨bT, 4, none⟩)
  | 2 => .int .u64 (x 4 : Int)
  | 3 => .int .u64 (c : Int)
  | 4 => .int .u64 (h : Int)
  | _ => .agg (numA h)
theorem times_any (a b : Nat) (ha : a < R256) (hb : b < R256) (w : World) :
    Calls Tryz.prog 57 #[.agg (numA a), .agg (numA b)] w fun e w' => (∃ o : Nat → Nat, e = .returned (.agg (A8 o)) ∧ (∀ i, i < 8 → o i < 18446744073709551616) ∧ vl o 8 = a * b) ∧ Below w.heap.size w w' := by
  refine (times_dig (dig a) (dig b) (fun i _ => dig_lt a i) (fun i _ => dig_lt b i) w).mono ?_
  rintro e w' ⟨⟨o, rfl, ho, he⟩, hB⟩
  rw [vl_num a ha, vl_num b hb] at he
  exact ⟨⟨o, rfl, ho, he⟩, hB⟩
set_option maxRecDepth 100000 in
set_option maxHeartbeats 8000000 in
theorem fmul_any (a b : Nat) (ha : a < R256) (hb : b < R256) (w : World) : Calls Tryz.prog 63 #[.agg (numA a), .agg (numA b)] w fun e w' => e = .returned (.agg (numA (a * b % pp))) ∧ Below w.heap.size w w' := by
  obtain ⟨r, Hr⟩ : ∃ r, Hid (a * b % pp = r) := ⟨_, rfl⟩
  rw [Hr.out]
  have hz := (zero_of_info zeroLit).1
  have hz8 := (zero_of_info zeroA8).1
  go_enter Tryz.func63, Tryz.ntmps63
  go_upto_region 1 with fail
  have hK0 := (((Kp.nil w).alloc (numA a) 50).alloc (numA b) 50).alloc (numA 0) 50
  rw [World.size_alloc, World.size_alloc] at hK0
  rw [show (#[.int .u64 0, .int .u64 0, .int .u64 0, .int .u64 0] : Array Value) = numA 0 from rfl]
  generalize ((w.alloc (.cells (numA a) 50)).alloc (.cells (numA b) 50)).alloc (.cells (numA 0) 50) = W at *
  obtain ⟨bA, HA⟩ : ∃ bA, Hid (w.heap.size = bA) := ⟨_, rfl⟩
  obtain ⟨bB, HB⟩ : ∃ bB, Hid (bA + 1 = bB) := ⟨_, rfl⟩
  obtain ⟨bR, HR⟩ : ∃ bR, Hid (bB + 1 = bR) := ⟨_, rfl⟩
  have hle : w.heap.size ≤ bR := by have := HA.out; have := HB.out; have := HR.out; omega
  rw [HA.out, HB.out, HR.out] at hK0 ⊢
  go_wp2_with (first
    | refine wpList_load_own (by rfl) 50 (.tmp 2) (by rfl) bA (by rfl) (numA a) _ (hK0.at bA (numA a) 50 (by simp)) Tryz.underlying50 (by rfl) (numA_info a) ?_
    | refine wpList_load_own (by rfl) 50 (.tmp 3) (by rfl) bB (by rfl) (numA b) _ (hK0.at bB (numA b) 50 (by simp)) Tryz.underlying50 (by rfl) (numA_info b) ?_)
  refine (times_any a b ha hb W).mono ?_
  rintro e w1 ⟨⟨o, rfl, ho, he⟩, hB1⟩
  have hK1 := (hK0.below hB1).alloc (A8 o) 63
  have hlo := vl4_lt o (fun i hi => ho i (by omega))
  have hhi := vl4_lt (fun j => o (j + 4)) (fun i hi => ho (i + 4) (by omega))
  have Hab : Hid (vl o 4 + R256 * vl (fun j => o (j + 4)) 4 = a * b) := by
    show _ = _
    rw [← he, vl_split o 4, pow4]
  have hLo : numA (vl o 4) = A4 o := (A4_num o (fun i hi => ho i (by omega))).symm
  have hHi : numA (vl (fun j => o (j + 4)) 4) = A4 (fun j => o (j + 4)) := (A4_num _ (fun i hi => ho (i + 4) (by omega))).symm
  have HLo := show Hid _ from hLo
  have HHi := show Hid _ from hHi
  clear he hLo hHi
  generalize vl o 4 = lo0 at *
  generalize vl (fun j => o (j + 4)) 4 = hi0 at *
  go_upto_region 2 with (refine wpList_store_new (by rfl) 63 (.tmp 5) (.tmp 14) (by rfl) _ (A8 o) (by rfl) (by rfl) infoA8 (by rfl) (A8_one o) (by rfl) ?_)
  generalize w1.alloc (.cells (A8 o) 63) = W1 at *
  generalize w1.heap.size = bT at *
  have oT := hK1.at bT (A8 o) 63 (by simp)
  have c0 := oT.cell (A8_at o 0 (by omega))
  have c1 := oT.cell (A8_at o 1 (by omega))
  have c2 := oT.cell (A8_at o 2 (by omega))
  have c3 := oT.cell (A8_at o 3 (by omega))
  have hK2 := hK1.alloc (numA lo0) 50
  go_upto_region 3 with (refine wpList_store_new (by rfl) 50 (.tmp 6) (.tmp 23) (by rfl) _ (numA lo0) (by rfl) (by rw [HLo.out]; rfl) (numA_info lo0) (lit4_size _ _ _ _ _) (numA_one lo0) (by rfl) ?_)
  clear c0 c1 c2 c3 oT
  have neL := fun p hp => Nat.ne_of_lt (hK1.1 p hp).lt
  have hleL : w.heap.size ≤ W1.heap.size := hK1.2.size
  generalize W1.alloc (.cells (numA lo0) 50) = W2 at *
  generalize W1.heap.size = bL at *
  have oT := hK2.at bT (A8 o) 63 (by simp)
  have c4 := oT.cell (A8_at o 4 (by omega))
  have c5 := oT.cell (A8_at o 5 (by omega))
  have c6 := oT.cell (A8_at o 6 (by omega))
  have c7 := oT.cell (A8_at o 7 (by omega))
  have hK3 := hK2.alloc (numA hi0) 50
  go_upto_region 4 with (refine wpList_store_new (by rfl) 50 (.tmp 7) (.tmp 32) (by rfl) _ (numA hi0) (by rfl) (by rw [HHi.out]; rfl) (numA_info hi0) (lit4_size _ _ _ _ _) (numA_one hi0) (by rfl) ?_)
  clear c4 c5 c6 c7 oT
  have neH := fun p hp => Nat.ne_of_lt (hK2.1 p hp).lt
  have hleH : w.heap.size ≤ W2.heap.size := hK2.2.size
  generalize W2.alloc (.cells (numA hi0) 50) = W3 at *
  generalize W2.heap.size = bH at *
  have n1 : bR ≠ bL := neL (bR, numA 0, 50) (by simp)
  have n2 : bR ≠ bH := neH (bR, numA 0, 50) (by simp)
  have n3 : bL ≠ bH := neH (bL, numA lo0, 50) (by simp)
  have hK4 : Kp [(bL, numA lo0, 50), (bH, numA hi0, 50), (bR, numA 0, 50)] w W3 := hK3.sub (by simp)
  clear hK0 hK1 hK2 hK3 neL neH HLo HHi hB1
  go_wp2_with fail
  go_loopw [8] (fun mm wr => ∃ (m : Bool) (lo hi : Nat), mm = .bool m ∧ lo < R256 ∧ hi < R256 ∧ Hid ((lo + R256 * hi) % pp = r) ∧ (m = false → hi = 0) ∧ Kp [(bL, numA lo, 50), (bH, numA hi, 50), (bR, numA 0, 50)] w wr) (fun mm wr => meas mm (rd wr bL) (rd wr bH))
  case atStart => exact ⟨true, lo0, hi0, rfl, hlo, hhi, by show _ = _; rw [Hab.out, Hr.out], fun e => by (cases e), hK4⟩
  case round =>
    obtain ⟨m, lo, hi, rfl, hlo, hhi, Hm, hmz, hKr⟩ := hrel
    have Hml : Hid (rd wr bL = lo) := rd_own (hKr.at bL (numA lo) 50 (by simp)) hlo
    have Hmh : Hid (rd wr bH = hi) := rd_own (hKr.at bH (numA hi) 50 (by simp)) hhi
    cases m
    · have hi0' := hmz rfl
      subst hi0'
      have Hlo : Hid (lo % pp = r) := by
        show _ = _
        have := Hm.out
        rwa [Nat.mul_zero, Nat.add_zero] at this
      go_upto_region 10 with fail
      go_wp2_with (refine wpList_load_own (by rfl) 50 (.tmp 6) (by rfl) bL (by rfl) (numA lo) _ (hKr.at bL (numA lo) 50 (by simp)) Tryz.underlying50 (by rfl) (numA_info lo) ?_)
      refine (mod_any lo hlo wr).mono ?_
      rintro e w2 ⟨rfl, hB2⟩
      have hK2 := hKr.below hB2
      rw [Hlo.out]
      go_wp2_with (refine wpList_store_own (by rfl) 50 (.tmp 4) (.tmp 61) (by rfl) bR 0 (numA r) (by rfl) (by rfl) (hK2.at bR (numA 0) 50 (by simp)) (Nat.le_refl _) (numA_info r) (numA_one r) (by rfl) ?_)
      refine bodyPost_ret (results_own Tryz.results63 _ _ bR (numA r) _ (by rfl) (own_setCells (hK2.at bR (numA 0) 50 (by simp)) (numA_sizes r 0)) Tryz.underlying50 rfl (numA_info r)) rfl ⟨rfl, ?_⟩
      exact Below.setCells _ _ _ _ hle hK2.2
    · go_upto_region 6 with fail
      go_wp2_with (refine wpList_load_own (by rfl) 50 (.tmp 7) (by rfl) bH (by rfl) (numA hi) _ (hKr.at bH (numA hi) 50 (by simp)) Tryz.underlying50 (by rfl) (numA_info hi) ?_)
      rw [show (#[.int .u64 38, .int .u64 0, .int .u64 0, .int .u64 0] : Array Value) = numA 38 from (numA_word 38 (by decide)).symm]
      refine (times_any hi 38 hhi (by decide) wr).mono ?_
      rintro e w1 ⟨⟨x, rfl, hx, hex⟩, hB1⟩
      have hX := vl4_lt x (fun i hi => hx i (by omega))
      obtain ⟨h4, Hx4⟩ := fold_top x hx hhi hex
      have HXn : Hid (numA (vl x 4) = A4 x) := (A4_num x (fun i hi => hx i (by omega))).symm
      clear hex
      have hK1 := (hKr.below hB1).alloc (A8 x) 63
      have ne1 := fun p hp => Nat.ne_of_lt ((hKr.below hB1).1 p hp).lt
      go_upto_region 7 with (refine wpList_store_new (by rfl) 63 (.tmp 9) (.tmp 36) (by rfl) _ (A8 x) (by rfl) (by rfl) infoA8 (by rfl) (A8_one x) (by rfl) ?_)
      generalize w1.alloc (.cells (A8 x) 63) = W4 at *
      generalize w1.heap.size = bX at *
      have m1 : bL ≠ bX := ne1 (bL, numA lo, 50) (by simp)
      have m2 : bH ≠ bX := ne1 (bH, numA hi, 50) (by simp)
      have m3 : bR ≠ bX := ne1 (bR, numA 0, 50) (by simp)
      have oX := hK1.at bX (A8 x) 63 (by simp)
      have c0 := oX.cell (A8_at x 0 (by omega))
      have c1 := oX.cell (A8_at x 1 (by omega))
      have c2 := oX.cell (A8_at x 2 (by omega))
      have c3 := oX.cell (A8_at x 3 (by omega))
      go_wp2_with (refine wpList_load_own (by rfl) 50 (.tmp 6) (by rfl) bL (by rfl) (numA lo) _ (hK1.at bL (numA lo) 50 (by simp)) Tryz.underlying50 (by rfl) (numA_info lo) ?_)
      rw [show (#[.int .u64 (x 0 : Int), .int .u64 (x 1 : Int), .int .u64 (x 2 : Int), .int .u64 (x 3 : Int)] : Array Value) = numA (vl x 4) from HXn.out.symm]
      generalize vl x 4 = X at *
      clear c0 c1 c2 c3 oX HXn
      refine (add_any lo X hlo hX W4).mono ?_
      rintro e w2 ⟨⟨s, c, rfl, hs, hc, hes⟩, hB2⟩
      have hK2 := (hK1.below hB2).alloc (numA s) 50
      have ne2 := fun p hp => Nat.ne_of_lt ((hK1.below hB2).1 p hp).lt
      go_upto_region 8 with (refine wpList_store_new (by rfl) 50 (.tmp 10) (.tmp 49) (by rfl) _ (numA s) (by rfl) (by rfl) (numA_info s) (lit4_size _ _ _ _ _) (numA_one s) (by rfl) ?_)
      generalize w2.alloc (.cells (numA s) 50) = W5 at *
      generalize w2.heap.size = bS at *
      have m4 : bX ≠ bS := ne2 (bX, A8 x, 63) (by simp)
      have m5 : bL ≠ bS := ne2 (bL, numA lo, 50) (by simp)
      have m6 : bH ≠ bS := ne2 (bH, numA hi, 50) (by simp)
      have m7 : bR ≠ bS := ne2 (bR, numA 0, 50) (by simp)
      obtain ⟨h, Hh⟩ : ∃ h, Hid (x 4 + c = h) := ⟨_, rfl⟩
      have hh : h < 18446744073709551616 := by have := Hh.out; omega
      have Hfold : Hid (lo + 38 * hi = s + R256 * h) := by
        show _ = _
        have h1 := Hx4.out
        have h2 := Hh.out
        rw [← h2, Nat.mul_add]
        omega
      have hw4 : IntKind.u64.wrap ((x 4 : Int) + (c : Int)) = (h : Int) := by
        rw [show (x 4 : Int) + (c : Int) = ((h : Nat) : Int) by have := Hh.out; omega]; exact wrap_small _ hh
      have hK5 : Kp [(bL, numA lo, 50), (bH, numA hi, 50), (bS, numA s, 50), (bX, A8 x, 63), (bR, numA 0, 50)] w W5 := hK2.sub (by simp)
      clear hK1 hK2 ne1 ne2 hes
      refine wp_region_vals 62 (by kernel_rfl) (by kernel_rfl) (by rfl) (valQ bX s c h x) (fun L => Kp [(bL, if L 6 = true then numA s else numA lo, 50), (bH, if L 7 = true then numA h else numA hi, 50), (bS, numA s, 50), (bX, A8 x, 63), (bR, numA 0, 50)] w) hK5.drew ?_ ?_
      · intro L ac wc i' o' hF hLi ho' hd K hK
        rcases i' with _ | _ | _ | _ | _ | _ | _ | _ | i'
        · have ho'' := ho'
          obtain rfl := Option.some.inj ho'
          have f10 : ac.tmps.getD 10 undef = .pointer (some ⟨bS, 0, none⟩) := slotv hF 0 hLi 10 (by kernel_rfl)
          refine step_do ho'' (wanted_free rfl) ?_
          exact wp_load_own 50 (.tmp 10) rfl bS f10 (numA s) _ 50 (hF.j.at bS (numA s) 50 (by simp)) Tryz.underlying50 rfl (numA_info s) (hK _ _ (.inr rfl) hF.j)
        · have ho'' := ho'
          obtain rfl := Option.some.inj ho'
          have f9 : ac.tmps.getD 9 undef = .pointer (some ⟨bX, 0, none⟩) := slotv hF 1 hLi 9 (by kernel_rfl)
          refine step_do ho'' (wanted_free rfl) ?_
          unfold Oper.wp
          go_simp
          exact hK _ _ (.inr rfl) hF.j
        · have ho'' := ho'
          obtain rfl := Option.some.inj ho'
          have f52 : ac.tmps.getD 52 undef = .pointer (some ⟨bX, 4, none⟩) := valv hF hd 1 rfl rfl (by kernel_rfl)
          refine step_do ho'' (wanted_free rfl) ?_
          have cT := (hF.j.at bX (A8 x) 63 (by simp)).cell (A8_at x 4 (by omega))
          unfold Oper.wp
          go_simp
          exact hK _ _ (.inr rfl) hF.j
        · have ho'' := ho'
          obtain rfl := Option.some.inj ho'
          have f11 : ac.tmps.getD 11 undef = .int .u64 (c : Int) := slotv hF 3 hLi 11 (by kernel_rfl)
          refine step_do ho'' (wanted_free rfl) ?_
          unfold Oper.wp
          go_simp
          exact hK _ _ (.inr rfl) hF.j
        · have ho'' := ho'
          obtain rfl := Option.some.inj ho'
          have f53 : ac.tmps.getD 53 undef = .int .u64 (x 4 : Int) := valv hF hd 2 rfl rfl (by kernel_rfl)
          have f54 : ac.tmps.getD 54 undef = .int .u64 (c : Int) := valv hF hd 3 rfl rfl (by kernel_rfl)
          refine step_do ho'' (wanted_free rfl) ?_
          unfold Oper.wp
          go_simp
          exact hK _ _ (.inr rfl) hF.j
        · have ho'' := ho'
          obtain rfl := Option.some.inj ho'
          have f55 : ac.tmps.getD 55 undef = .int .u64 (h : Int) := valv hF hd 4 rfl rfl (by kernel_rfl)
          refine step_do ho'' (wanted_free rfl) ?_
          have q55 := getq f55
          unfold Oper.wp
          go_simp
          exact hK _ _ (.inr (by show _ = Value.agg (numA h); rw [numA_word h hh])) hF.j
        · have ho'' := ho'
          obtain rfl := Option.some.inj ho'
          have f6 : ac.tmps.getD 6 undef = .pointer (some ⟨bL, 0, none⟩) := slotv hF 6 hLi 6 (by kernel_rfl)
          have f51 : ac.tmps.getD 51 undef = .agg (numA s) := valv hF hd 0 rfl rfl (by kernel_rfl)
          refine step_do ho'' (wanted_free rfl) ?_
          have hj := hF.j
          rw [hLi] at hj
          refine wp_store_own 50 (.tmp 6) (.tmp 51) rfl bL (numA s) f6 f51 (hj.at bL (numA lo) 50 (by simp)) rfl (numA_info s) (numA_one s) rfl ?_
          exact hK undef _ (.inl rfl) (Kp.set hj (by simp; omega) hleL rfl)
        · have ho'' := ho'
          obtain rfl := Option.some.inj ho'
          have f7 : ac.tmps.getD 7 undef = .pointer (some ⟨bH, 0, none⟩) := slotv hF 7 hLi 7 (by kernel_rfl)
          have f56 : ac.tmps.getD 56 undef = .agg (numA h) := valv hF hd 5 rfl rfl (by kernel_rfl)
          refine step_do ho'' (wanted_free rfl) ?_
          have hj := hF.j
          rw [hLi] at hj
          refine wp_store_own 50 (.tmp 7) (.tmp 56) rfl bH (numA h) f7 f56 (hj.at bH (numA hi) 50 (by simp)) rfl (numA_info h) (numA_one h) rfl ?_
          exact hK undef _ (.inl rfl) (Kp.set2 hj (by simp; omega) hleH rfl)
        · cases ho'
      · intro L wq hL hKq
        have h6 := hL 6 (by decide)
        have h7 := hL 7 (by decide)
        rw [h6, h7] at hKq
        have hKq : Kp [(bL, numA s, 50), (bH, numA h, 50), (bS, numA s, 50), (bX, A8 x, 63), (bR, numA 0, 50)] w wq := hKq
        simp only [putAll, valQ]
        have cH := (hKq.at bH (numA h) 50 (by simp)).cell (numA_at h 0 (by omega))
        rw [show dig h 0 = h by unfold dig; rw [Nat.pow_zero, Nat.div_one, Nat.mod_eq_of_lt hh]] at cH
        have Rl := rd_own (hKq.at bL (numA s) 50 (by simp)) hs
        have Rh := rd_own (hKq.at bH (numA h) 50 (by simp)) (Nat.lt_trans hh (by decide))
        have HRl := show Hid _ from Rl
        have HRh := show Hid _ from Rh
        clear Rl Rh
        obtain ⟨m', Hm'⟩ : ∃ m', Hid (((h : Int) != 0) = m') := ⟨_, rfl⟩
        have hm' := Hm'.out
        go_wp2_with fail
        refine ⟨⟨m', s, h, rfl, hs, Nat.lt_trans hh (by decide), (fold_mod lo hi s h Hfold.out).trans Hm.out, fun e => ?_, hKq.sub (by simp)⟩, ?_⟩
        · rw [e] at hm'
          have : (h : Int) = 0 := by simpa using hm'
          omega
        · rw [HRl.out, HRh.out, Hml.out, Hmh.out]
          exact meas_less hlo Hfold.out hm'
end Go.Proofs.YtfkcphbbabaefaaGreatDoor
