/- The walk of the law CrcLinear. -/
import Derived.Test.YtcpapcopnmapmaaDoorL1
import Derived.Test.YtcpapcopnmapmaaDoorW3
import Derived.Test.YtcpapcopnmapmaaDoorK4
namespace Go.Proofs.YtcpapcopnmapmaaDoor
open Go.RowKit

theorem least (x y z : Nat) : ∃ n : Nat, (if (if z < y then (z : Int) else (y : Int)) < (x : Int) then if z < y then (z : Int) else (y : Int) else (x : Int)) = (n : Int) ∧ n ≤ x ∧ n ≤ y ∧ n ≤ z := by
  by_cases h1 : z < y
  · rw [if_pos h1]
    by_cases h2 : (z : Int) < (x : Int)
    · rw [if_pos h2]; exact ⟨z, rfl, by omega, by omega, by omega⟩
    · rw [if_neg h2]; exact ⟨x, rfl, by omega, by omega, by omega⟩
  · rw [if_neg h1]
    by_cases h2 : (y : Int) < (x : Int)
    · rw [if_pos h2]; exact ⟨y, rfl, by omega, by omega, by omega⟩
    · rw [if_neg h2]; exact ⟨x, rfl, by omega, by omega, by omega⟩
theorem xor3_length : ∀ (a b c : List Int), a.length = b.length → b.length = c.length → (xor3 a b c).length = a.length
  | [], _, _, _, _ => by simp [xor3]
  | _ :: _, [], _, h, _ => by simp at h
  | _ :: _, _ :: _, [], _, h => by simp at h
  | x :: a, y :: b, z :: c, h1, h2 => by
    rw [xor3, List.length_cons, List.length_cons, xor3_length a b c (Nat.succ.inj h1) (Nat.succ.inj h2)]
theorem xor3_at : ∀ (a b c : List Int) (k : Nat), k < a.length → a.length = b.length → b.length = c.length → (xor3 a b c).getD k 0 = (((a.getD k 0).toNat ^^^ (b.getD k 0).toNat ^^^ (c.getD k 0).toNat : Nat) : Int)
  | [], _, _, k, hk, _, _ => by simp at hk
  | _ :: _, [], _, _, _, h, _ => by simp at h
  | _ :: _, _ :: _, [], _, _, _, h => by simp at h
  | x :: a, y :: b, z :: c, 0, _, _, _ => by rw [xor3, List.getD_cons_zero, List.getD_cons_zero, List.getD_cons_zero, List.getD_cons_zero]
  | x :: a, y :: b, z :: c, k + 1, hk, h1, h2 => by
    rw [xor3, List.getD_cons_succ, List.getD_cons_succ, List.getD_cons_succ, List.getD_cons_succ, xor3_at a b c k (Nat.lt_of_succ_lt_succ hk) (Nat.succ.inj h1) (Nat.succ.inj h2)]
theorem xor3_bys : ∀ (a b c : List Int), Bys a → Bys b → Bys c → Bys (xor3 a b c)
  | [], _, _, _, _, _ => by intro x hx; simp [xor3] at hx
  | _ :: _, [], _, _, _, _ => by intro x hx; simp [xor3] at hx
  | _ :: _, _ :: _, [], _, _, _ => by intro x hx; simp [xor3] at hx
  | x :: a, y :: b, z :: c, ha, hb, hc => by
    intro u hu
    rw [xor3, List.mem_cons] at hu
    rcases hu with rfl | hu
    · have h1 := ha.cons.1
      have h2 := hb.cons.1
      have h3 := hc.cons.1
      have := Nat.xor_lt_two_pow (n := 8) (Nat.xor_lt_two_pow (n := 8) (show x.toNat < 2 ^ 8 by omega) (show y.toNat < 2 ^ 8 by omega)) (show z.toNat < 2 ^ 8 by omega)
      omega
    · exact xor3_bys a b c ha.cons.2 hb.cons.2 hc.cons.2 u hu
theorem set_take (l : List Int) (k : Nat) (v : Int) : (l.set k v).take k = l.take k := by
  rw [List.take_set]
  apply List.set_eq_of_length_le
  simp; omega
theorem noughts_bys (n : Nat) : Bys (List.replicate n 0) := fun x hx => by
  obtain ⟨_, rfl⟩ := List.mem_replicate.1 hx
  decide

/-- The values of the last statement's operations; those not named are true. -/
def valL (g n : Nat) (a : Option Addr) (len cap : Nat) (a' : Option Addr) (len' cap' : Nat) (a'' : Option Addr) (len'' cap'' : Nat) (s0 s1 s2 s3 : Nat) : Nat → Value
  | 0 => .slice (some ⟨g, 0, none⟩) n n
  | 1 => .int .u32 (s0 : Int)
  | 2 => .slice a len cap
  | 3 => .int .i64 (n : Int)
  | 4 => .slice a n cap
  | 5 => .int .u32 (s1 : Int)
  | 6 => .slice a' len' cap'
  | 7 => .int .i64 (n : Int)
  | 8 => .slice a' n cap'
  | 9 => .int .u32 (s2 : Int)
  | 10 => .int .u32 (bits .xor .u32 (s1 : Int) (s2 : Int))
  | 11 => .slice a'' len'' cap''
  | 12 => .int .i64 (n : Int)
  | 13 => .slice a'' n cap''
  | 14 => .int .u32 (s3 : Int)
  | 15 => .int .u32 (s0 : Int)
  | _ => .bool true
theorem xor_three (s1 s2 s3 : Nat) (h1 : s1 < 4294967296) (h2 : s2 < 4294967296) (h3 : s3 < 4294967296) : bits .xor .u32 (bits .xor .u32 (s1 : Int) (s2 : Int)) (s3 : Int) = ((s1 ^^^ s2 ^^^ s3 : Nat) : Int) := by
  rw [u32_xor_nat s1 s2 h1 h2, u32_xor_nat (s1 ^^^ s2) s3 (Nat.xor_lt_two_pow (n := 32) h1 h2) h3]


set_option maxRecDepth 100000 in
set_option maxHeartbeats 4000000 in
theorem linear_any (a : Option Addr) (len cap : Nat) (m : List Int) (a' : Option Addr) (len' cap' : Nat) (m' : List Int) (a'' : Option Addr) (len'' cap'' : Nat) (m'' : List Int) (w : World)
    (hm : BytesV w a len cap m) (hn : a = none → cap = 0) (hm' : BytesV w a' len' cap' m') (hn' : a' = none → cap' = 0) (hm'' : BytesV w a'' len'' cap'' m'') (hn'' : a'' = none → cap'' = 0) (hT : Tabs w) :
    Calls Tryd.prog 6 #[.slice a len cap, .slice a' len' cap', .slice a'' len'' cap''] w fun e w' => e = .returned (.bool true) ∧ Below w.heap.size w w' := by
  by_cases hl0 : 400 < len
  · have hi : (400 : Int) < (len : Int) := by omega
    go_enter Tryd.func6, Tryd.ntmps6
    go_wp2_with fail
    go_ret
    exact ⟨rfl, Below.refl _ _⟩
  have hi0 : ¬ (400 : Int) < (len : Int) := by omega
  have hj0 : (len : Int) ≤ 400 := by omega
  by_cases hl1 : 400 < len'
  · have hi : (400 : Int) < (len' : Int) := by omega
    go_enter Tryd.func6, Tryd.ntmps6
    go_wp2_with fail
    go_ret
    exact ⟨rfl, Below.refl _ _⟩
  have hi1 : ¬ (400 : Int) < (len' : Int) := by omega
  have hj1 : (len' : Int) ≤ 400 := by omega
  by_cases hl2 : 400 < len''
  · have hi : (400 : Int) < (len'' : Int) := by omega
    go_enter Tryd.func6, Tryd.ntmps6
    go_wp2_with fail
    go_ret
    exact ⟨rfl, Below.refl _ _⟩
  have hi2 : ¬ (400 : Int) < (len'' : Int) := by omega
  have hj2 : (len'' : Int) ≤ 400 := by omega
  go_enter Tryd.func6, Tryd.ntmps6
  go_upto_region 4 with fail
  obtain ⟨n, hN, hn0, hn1, hn2⟩ := least len len' len''
  rw [hN]
  clear hN
  generalize (if len'' < len' then (len'' : Int) else (len' : Int)) = e29
  have hn4 : (n : Int) ≤ 400 := by omega
  have hn5 : (0 : Int) ≤ (n : Int) := by omega
  go_wp2_with (at_make; refine wpList_make_cells _ (by rfl) _ _ 22 (by rfl) 5 _ Tryd.underlying22 info5 (by rfl) .i64 .i64 _ _ n (by rfl) (by rfl) rfl rfl (by omega) (by unfold maxLen; omega) ?_; intro w1 ho hgr)
  have hb := below_none hgr
  clear hgr
  have hR : RowAt w1 w.heap.size n (List.replicate n 0) := ⟨by simp, by unfold maxLen; omega, _, ho, by simp, by simp [u8s]⟩
  clear ho
  have t0 := hm.take n hn0
  have t1 := hm'.take n hn1
  have t2 := hm''.take n hn2
  have hl0 := t0.1
  have hl1 := t1.1
  have hl2 := t2.1
  obtain ⟨X, hX⟩ : ∃ X, X = xor3 (m.take n) (m'.take n) (m''.take n) := ⟨_, rfl⟩
  have hXl : X.length = n := by rw [hX, xor3_length _ _ _ (by omega) (by omega)]; omega
  have hXa := fun k hk => xor3_at (m.take n) (m'.take n) (m''.take n) k hk (by omega) (by omega)
  rw [← hX] at hXa
  have HX := show Hid _ from hX
  have Hl0 := show Hid _ from hl0
  have Hl1 := show Hid _ from hl1
  have Hl2 := show Hid _ from hl2
  have hXb : Bys X := by rw [hX]; exact xor3_bys _ _ _ t0.2.2.2.1 t1.2.2.2.1 t2.2.2.2.1
  clear hX hl0 hl1 hl2
  obtain ⟨g, Hg⟩ : ∃ g, Hid (w.heap.size = g) := ⟨_, rfl⟩
  have hgw : w.heap.size ≤ g := Nat.le_of_eq Hg.out
  rw [Hg.out] at hR ⊢
  go_loopw [9] (fun i wr => ∃ (k : Nat) (l : List Int), k ≤ n ∧ i = .int .i64 (k : Int) ∧ l.length = n ∧ Hid (l.take k = X.take k) ∧ RowAt wr g n l ∧ Below w.heap.size w wr) (fun i _ => n - (intOf i).toNat)
  case atStart => exact ⟨0, List.replicate n 0, Nat.zero_le _, rfl, by simp, rfl, hR, hb⟩
  case round =>
    obtain ⟨k, l, hk, rfl, hll, Hl, hRl, hbw⟩ := hrel
    have hki0 : (0 : Int) ≤ (k : Int) := by omega
    by_cases hkn : k < n
    · have hki : (k : Int) < (n : Int) := by omega
      obtain ⟨b0, o0, rfl, c0⟩ := (hm.below hbw).at k (by omega)
      obtain ⟨b1, o1, rfl, c1⟩ := (hm'.below hbw).at k (by omega)
      obtain ⟨b2, o2, rfl, c2⟩ := (hm''.below hbw).at k (by omega)
      have hk0 : (k : Int) < (len : Int) := by omega
      have hk1 : (k : Int) < (len' : Int) := by omega
      have hk2 : (k : Int) < (len'' : Int) := by omega
      have cx := hRl.cellAt k (by omega)
      have fx := hRl.frozen k
      have Hv := show Hid _ from hXa k (by have := Hl0.out; omega)
      have q0 := hm.2.2.2.1 (m.getD k 0) (by have := hm.1; rw [List.getD, List.getElem?_eq_getElem (by omega)]; exact List.getElem_mem _)
      have q1 := hm'.2.2.2.1 (m'.getD k 0) (by have := hm'.1; rw [List.getD, List.getElem?_eq_getElem (by omega)]; exact List.getElem_mem _)
      have q2 := hm''.2.2.2.1 (m''.getD k 0) (by have := hm''.1; rw [List.getD, List.getElem?_eq_getElem (by omega)]; exact List.getElem_mem _)
      have e0 : (m.take n).getD k 0 = m.getD k 0 := by rw [List.getD, List.getElem?_take, if_pos hkn, ← List.getD]
      have e1 : (m'.take n).getD k 0 = m'.getD k 0 := by rw [List.getD, List.getElem?_take, if_pos hkn, ← List.getD]
      have e2 : (m''.take n).getD k 0 = m''.getD k 0 := by rw [List.getD, List.getElem?_take, if_pos hkn, ← List.getD]
      rw [e0, e1, e2] at Hv
      clear e0 e1 e2
      obtain ⟨x0, y0⟩ : ∃ x : Nat, m.getD k 0 = (x : Int) := ⟨(m.getD k 0).toNat, by omega⟩
      obtain ⟨x1, y1⟩ : ∃ x : Nat, m'.getD k 0 = (x : Int) := ⟨(m'.getD k 0).toNat, by omega⟩
      obtain ⟨x2, y2⟩ : ∃ x : Nat, m''.getD k 0 = (x : Int) := ⟨(m''.getD k 0).toNat, by omega⟩
      rw [y0] at q0 c0 Hv
      rw [y1] at q1 c1 Hv
      rw [y2] at q2 c2 Hv
      have z1 := u8_xor_nat x0 x1 (by omega) (by omega)
      have z2 := u8_xor_nat (x0 ^^^ x1) x2 (Nat.xor_lt_two_pow (n := 8) (by omega) (by omega)) (by omega)
      clear y0 y1 y2 q0 q1 q2
      rw [Int.toNat_natCast, Int.toNat_natCast, Int.toNat_natCast] at Hv
      generalize x0 ^^^ x1 = z at *
      generalize z ^^^ x2 = v at *
      go_wp2_with fail
      go_region
      go_wp2_with fail
      go_roundw
      case rel =>
        refine ⟨k + 1, l.set k (v : Int), by omega, by go_num, by rw [List.length_set]; exact hll, ?_, ?_, ?_⟩
        · refine (take_succ_eq _ _ _ (by rw [List.length_set]; omega) (by omega)).2 ⟨by rw [set_take]; exact Hl.out, ?_⟩
          rw [Hv.out, List.getD, List.getElem?_set_self (by omega), Option.getD_some]
        · exact (hRl.set k _).drew
        · exact (hbw.setCell hgw _).trans ((Below.refl _ _).drew)
      case measure => simp [intOf]; omega
    · have hki : ¬ (k : Int) < (n : Int) := by omega
      obtain rfl : l = X := by
        have := Hl.out
        rwa [List.take_of_length_le (by omega), List.take_of_length_le (by omega)] at this
      go_upto_region 9 with fail
      have hVl := hRl.bytes hXb
      rw [hXl] at hVl
      have u0 := t0.below hbw
      have u1 := t1.below hbw
      have u2 := t2.below hbw
      have hTw := hT.below hbw
      have hs0 := fun wc (h : Below wr.heap.size wr wc) => sum_any _ n n l wc (hVl.below h) (hTw.below h)
      have hs1 := fun wc (h : Below wr.heap.size wr wc) => sum_any _ n cap (m.take n) wc (u0.below h) (hTw.below h)
      have hs2 := fun wc (h : Below wr.heap.size wr wc) => sum_any _ n cap' (m'.take n) wc (u1.below h) (hTw.below h)
      have hs3 := fun wc (h : Below wr.heap.size wr wc) => sum_any _ n cap'' (m''.take n) wc (u2.below h) (hTw.below h)
      have hlin := crc_linear (m.take n) (m'.take n) (m''.take n) (by have := Hl0.out; have := Hl1.out; omega) (by have := Hl1.out; have := Hl2.out; omega)
      rw [← HX.out] at hlin
      have hx3 := xor_three (crc (m.take n)) (crc (m'.take n)) (crc (m''.take n)) (crc_lt _ t0.2.2.2.1) (crc_lt _ t1.2.2.2.1) (crc_lt _ t2.2.2.2.1)
      rw [← hlin] at hx3
      clear hlin
      generalize crc l = s0 at *
      generalize crc (m.take n) = s1 at *
      generalize crc (m'.take n) = s2 at *
      generalize crc (m''.take n) = s3 at *
      have hs00 : ((s0 : Int) == (s0 : Int)) = true := beq_self_eq_true _
      have n0 : (n : Int) ≤ (cap : Int) := by have := hm.2.1; omega
      have n1 : (n : Int) ≤ (cap' : Int) := by have := hm'.2.1; omega
      have n2 : (n : Int) ≤ (cap'' : Int) := by have := hm''.2.1; omega
      have hbW := hbw
      clear hR hb hXa hVl u0 u1 u2 Hl hXl hll hRl
      have hT := hTw
      refine wp_region_stable 75 (by kernel_rfl) (by kernel_rfl) (by rfl) (fun i v _ => v = valL g n a len cap a' len' cap' a'' len'' cap'' s0 s1 s2 s3 i) (fun _ _ _ _ _ h => h) ?_ ?_
      · intro L ac wc i o hF ho hd
        rcases i with _ | _ | _ | _ | _ | _ | _ | _ | _ | _ | _ | _ | _ | _ | _ | _ | _ | _ | _ | _ | _ | i
        · obtain rfl := Option.some.inj ho
          have f8 : ac.tmps.getD 8 undef = .slice (some ⟨g, 0, none⟩) n n := slot hF 8 (by kernel_rfl)
          refine ⟨wanted_free rfl, fun K hK => ?_⟩
          unfold Oper.wp
          go_simp
          exact hK _ _ (Below.refl _ _) rfl
        · obtain rfl := Option.some.inj ho
          have f55 : ac.tmps.getD 55 undef = .slice (some ⟨g, 0, none⟩) n n := hF.fact 0 _ _ rfl rfl (dep hd 0 (by kernel_rfl))
          refine ⟨wanted_free rfl, fun K hK => ?_⟩
          unfold Oper.wp
          go_simp
          refine (hs0 wc hF.cls).mono ?_
          rintro e w' ⟨rfl, rfl⟩
          exact hK _ _ (Below.refl _ _) rfl
        · obtain rfl := Option.some.inj ho
          have f0 : ac.tmps.getD 0 undef = .slice a len cap := slot hF 0 (by kernel_rfl)
          refine ⟨wanted_free rfl, fun K hK => ?_⟩
          unfold Oper.wp
          go_simp
          exact hK _ _ (Below.refl _ _) rfl
        · obtain rfl := Option.some.inj ho
          have f7 : ac.tmps.getD 7 undef = .int .i64 (n : Int) := slot hF 7 (by kernel_rfl)
          refine ⟨wanted_free rfl, fun K hK => ?_⟩
          unfold Oper.wp
          go_simp
          exact hK _ _ (Below.refl _ _) rfl
        · obtain rfl := Option.some.inj ho
          have f57 : ac.tmps.getD 57 undef = .slice a len cap := hF.fact 2 _ _ rfl rfl (dep hd 2 (by kernel_rfl))
          have f58 : ac.tmps.getD 58 undef = .int .i64 (n : Int) := hF.fact 3 _ _ rfl rfl (dep hd 3 (by kernel_rfl))
          refine ⟨wanted_free rfl, fun K hK => ?_⟩
          unfold Oper.wp
          go_simp
          exact hK _ _ (Below.refl _ _) rfl
        · obtain rfl := Option.some.inj ho
          have f59 : ac.tmps.getD 59 undef = .slice a n cap := hF.fact 4 _ _ rfl rfl (dep hd 4 (by kernel_rfl))
          refine ⟨wanted_free rfl, fun K hK => ?_⟩
          unfold Oper.wp
          go_simp
          refine (hs1 wc hF.cls).mono ?_
          rintro e w' ⟨rfl, rfl⟩
          exact hK _ _ (Below.refl _ _) rfl
        · obtain rfl := Option.some.inj ho
          have f1 : ac.tmps.getD 1 undef = .slice a' len' cap' := slot hF 1 (by kernel_rfl)
          refine ⟨wanted_free rfl, fun K hK => ?_⟩
          unfold Oper.wp
          go_simp
          exact hK _ _ (Below.refl _ _) rfl
        · obtain rfl := Option.some.inj ho
          have f7 : ac.tmps.getD 7 undef = .int .i64 (n : Int) := slot hF 7 (by kernel_rfl)
          refine ⟨wanted_free rfl, fun K hK => ?_⟩
          unfold Oper.wp
          go_simp
          exact hK _ _ (Below.refl _ _) rfl
        · obtain rfl := Option.some.inj ho
          have f61 : ac.tmps.getD 61 undef = .slice a' len' cap' := hF.fact 6 _ _ rfl rfl (dep hd 6 (by kernel_rfl))
          have f62 : ac.tmps.getD 62 undef = .int .i64 (n : Int) := hF.fact 7 _ _ rfl rfl (dep hd 7 (by kernel_rfl))
          refine ⟨wanted_free rfl, fun K hK => ?_⟩
          unfold Oper.wp
          go_simp
          exact hK _ _ (Below.refl _ _) rfl
        · obtain rfl := Option.some.inj ho
          have f63 : ac.tmps.getD 63 undef = .slice a' n cap' := hF.fact 8 _ _ rfl rfl (dep hd 8 (by kernel_rfl))
          refine ⟨wanted_free rfl, fun K hK => ?_⟩
          unfold Oper.wp
          go_simp
          refine (hs2 wc hF.cls).mono ?_
          rintro e w' ⟨rfl, rfl⟩
          exact hK _ _ (Below.refl _ _) rfl
        · obtain rfl := Option.some.inj ho
          have f60 : ac.tmps.getD 60 undef = .int .u32 (s1 : Int) := hF.fact 5 _ _ rfl rfl (dep hd 5 (by kernel_rfl))
          have f64 : ac.tmps.getD 64 undef = .int .u32 (s2 : Int) := hF.fact 9 _ _ rfl rfl (dep hd 9 (by kernel_rfl))
          refine ⟨wanted_free rfl, fun K hK => ?_⟩
          unfold Oper.wp
          go_simp
          exact hK _ _ (Below.refl _ _) rfl
        · obtain rfl := Option.some.inj ho
          have f2 : ac.tmps.getD 2 undef = .slice a'' len'' cap'' := slot hF 2 (by kernel_rfl)
          refine ⟨wanted_free rfl, fun K hK => ?_⟩
          unfold Oper.wp
          go_simp
          exact hK _ _ (Below.refl _ _) rfl
        · obtain rfl := Option.some.inj ho
          have f7 : ac.tmps.getD 7 undef = .int .i64 (n : Int) := slot hF 7 (by kernel_rfl)
          refine ⟨wanted_free rfl, fun K hK => ?_⟩
          unfold Oper.wp
          go_simp
          exact hK _ _ (Below.refl _ _) rfl
        · obtain rfl := Option.some.inj ho
          have f66 : ac.tmps.getD 66 undef = .slice a'' len'' cap'' := hF.fact 11 _ _ rfl rfl (dep hd 11 (by kernel_rfl))
          have f67 : ac.tmps.getD 67 undef = .int .i64 (n : Int) := hF.fact 12 _ _ rfl rfl (dep hd 12 (by kernel_rfl))
          refine ⟨wanted_free rfl, fun K hK => ?_⟩
          unfold Oper.wp
          go_simp
          exact hK _ _ (Below.refl _ _) rfl
        · obtain rfl := Option.some.inj ho
          have f68 : ac.tmps.getD 68 undef = .slice a'' n cap'' := hF.fact 13 _ _ rfl rfl (dep hd 13 (by kernel_rfl))
          refine ⟨wanted_free rfl, fun K hK => ?_⟩
          unfold Oper.wp
          go_simp
          refine (hs3 wc hF.cls).mono ?_
          rintro e w' ⟨rfl, rfl⟩
          exact hK _ _ (Below.refl _ _) rfl
        · obtain rfl := Option.some.inj ho
          have f65 : ac.tmps.getD 65 undef = .int .u32 (bits .xor .u32 (s1 : Int) (s2 : Int)) := hF.fact 10 _ _ rfl rfl (dep hd 10 (by kernel_rfl))
          have f69 : ac.tmps.getD 69 undef = .int .u32 (s3 : Int) := hF.fact 14 _ _ rfl rfl (dep hd 14 (by kernel_rfl))
          refine ⟨wanted_free rfl, fun K hK => ?_⟩
          unfold Oper.wp
          go_simp
          exact hK _ _ (Below.refl _ _) rfl
        · obtain rfl := Option.some.inj ho
          have f56 : ac.tmps.getD 56 undef = .int .u32 (s0 : Int) := hF.fact 1 _ _ rfl rfl (dep hd 1 (by kernel_rfl))
          have f70 : ac.tmps.getD 70 undef = .int .u32 (s0 : Int) := hF.fact 15 _ _ rfl rfl (dep hd 15 (by kernel_rfl))
          refine ⟨wanted_free rfl, fun K hK => ?_⟩
          unfold Oper.wp
          go_simp
          exact hK _ _ (Below.refl _ _) rfl
        · obtain rfl := Option.some.inj ho
          have f71 : ac.tmps.getD 71 undef = .bool true := hF.fact 16 _ _ rfl rfl (dep hd 16 (by kernel_rfl))
          refine ⟨wanted_free rfl, fun K hK => ?_⟩
          unfold Oper.wp
          go_simp
          exact hK _ _ (Below.refl _ _) rfl
        · obtain rfl := Option.some.inj ho
          have fg : ac.tmps.getD 72 undef = .bool true := hF.fact 17 _ _ rfl rfl (dep hd 17 (by kernel_rfl))
          refine ⟨wanted_true (g := 17) rfl rfl rfl fg, fun K hK => ?_⟩
          unfold Oper.wp
          go_simp
          refine (wakes_any _ (hT.below hF.cls)).mono ?_
          rintro e w' ⟨rfl, hB⟩
          exact hK _ _ hB rfl
        · obtain rfl := Option.some.inj ho
          have f72 : ac.tmps.getD 72 undef = .bool true := hF.fact 17 _ _ rfl rfl (dep hd 17 (by kernel_rfl))
          have f73 : ac.tmps.getD 73 undef = .bool true := hF.fact 18 _ _ rfl rfl (dep hd 18 (by kernel_rfl))
          refine ⟨wanted_free rfl, fun K hK => ?_⟩
          unfold Oper.wp
          go_simp
          exact hK _ _ (Below.refl _ _) rfl
        · obtain rfl := Option.some.inj ho
          have f74 : ac.tmps.getD 74 undef = .bool true := hF.fact 19 _ _ rfl rfl (dep hd 19 (by kernel_rfl))
          refine ⟨wanted_free rfl, fun K hK => ?_⟩
          unfold Oper.wp
          go_simp
          exact hK _ _ (Below.refl _ _) rfl
        · cases ho
      · intro L ac wc hL hF
        have f6 : ac.tmps.getD 6 undef = .bool true := hF.fact 20 _ 6 rfl rfl (hL 20 (by decide))
        have hb := bel hbW hF.cls
        go_wp2
        exact bodyPost_ret (results_tmp rfl _ _ _) hF.defers ⟨by rw [f6], hb⟩
end Go.Proofs.YtcpapcopnmapmaaDoor
