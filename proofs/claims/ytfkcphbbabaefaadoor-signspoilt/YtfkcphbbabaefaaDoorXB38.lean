/- Of the texts SL3: what the card of this claim reaches. -/
import Derived.Test.YtfkcphbbabaefaaDoorXB36
import Derived.Test.YtfkcphbbabaefaaDoorXB37
namespace Go.Proofs.YtfkcphbbabaefaaDoor
open Go Go.RowKit
theorem tmod4 (i : Int) : (IntKind.u64.wrap i).tmod 4 = 0 ∨ (IntKind.u64.wrap i).tmod 4 = 1 ∨ (IntKind.u64.wrap i).tmod 4 = 2 ∨ (IntKind.u64.wrap i).tmod 4 = 3 := by
  have h := (H.wrap_range i).1
  rw [Int.tmod_eq_emod_of_nonneg h]; omega
theorem tmodN (i : Int) (h : 0 ≤ i) (N : Nat) (hN : 0 < N := by decide) : ∃ a : Nat, i.tmod (N : Int) = (a : Int) ∧ a < N := by
  obtain ⟨j, rfl⟩ : ∃ j : Nat, i = (j : Int) := ⟨i.toNat, by omega⟩
  exact ⟨j % N, by rw [Int.tmod_eq_emod_of_nonneg h]; exact (Int.natCast_emod j N).symm, Nat.mod_lt _ hN⟩
theorem tdiv8 (a : Nat) : (a : Int).tdiv 8 = ((a / 8 : Nat) : Int) := by rw [Int.tdiv_eq_ediv_of_nonneg (by omega)]; omega
theorem tmod8 (a : Nat) : (a : Int).tmod 8 = ((a % 8 : Nat) : Int) := by rw [Int.tmod_eq_emod_of_nonneg (by omega)]; omega
theorem u64_of (i : Int) : 0 ≤ IntKind.u64.wrap i := (H.wrap_range i).1
theorem flip64 (z k x : Nat) (hk : k < 64) (hx : x < 256) : ∃ z', z' < R512 ∧ B64 (upd (bdig z) k x) = B64 (bdig z') := by
  have h : ∀ i, i < 64 → upd (bdig z) k x i < 256 := fun i _ => by
    by_cases e : i = k
    · subst e; rw [upd_same]; exact hx
    · rw [upd_other _ _ _ _ e]; exact bdig_lt z i
  refine ⟨vb (upd (bdig z) k x) 64, by rw [show R512 = 256 ^ 64 by decide]; exact vb_lt _ 64 h, B64_ext fun i hi => (bdig_vb _ 64 h i hi).symm⟩
theorem flip32 (z k x : Nat) (hk : k < 32) (hx : x < 256) : ∃ z', z' < R256 ∧ B32 (upd (bdig z) k x) = B32 (bdig z') := by
  have h : ∀ i, i < 32 → upd (bdig z) k x i < 256 := fun i _ => by
    by_cases e : i = k
    · subst e; rw [upd_same]; exact hx
    · rw [upd_other _ _ _ _ e]; exact bdig_lt z i
  refine ⟨vb (upd (bdig z) k x) 32, by rw [R256_pow]; exact vb_lt _ 32 h, B32_ext fun i hi => (bdig_vb _ 32 h i hi).symm⟩
theorem xor_range : ∀ (e : Fin 8) (x : Fin 256), 0 ≤ bits .xor .u8 (x.val : Int) (2 ^ e.val % 256) ∧ bits .xor .u8 (x.val : Int) (2 ^ e.val % 256) < 256 := by decide +kernel
theorem xor_nat {u e : Nat} (hu : u < 256) (he : e < 8) : ∃ x : Nat, x < 256 ∧ bits .xor .u8 (u : Int) (2 ^ e % 256) = (x : Int) := by
  have h : 0 ≤ bits .xor .u8 (u : Int) (2 ^ e % 256) ∧ bits .xor .u8 (u : Int) (2 ^ e % 256) < 256 := xor_range ⟨e, he⟩ ⟨u, hu⟩
  exact ⟨(bits .xor .u8 (u : Int) (2 ^ e % 256)).toNat, by omega, by omega⟩
theorem own_text {w : World} {base n c : Nat} {a : Option Addr} {l : List Int} (h : H.OwnBytes w base (.slice a n c) l) (hl : n = l.length) (hn : 0 < l.length) (hb : H.Bys l) : ∃ g X, base ≤ g ∧ Own w g X 5 ∧ ∀ W, Own W g X 5 → Txt W a c l := by
  subst hl
  obtain ⟨k1, ⟨k2, k3⟩ | ⟨g, cap, cur, k2, k3, k4, k5⟩⟩ := h
  · omega
  · exact ⟨g, cur, k3, k4, fun W hW => txt_of_own (base := base) ⟨k1, .inr ⟨g, cap, cur, k2, k3, hW, k5⟩⟩ hb⟩
def carryN (a b i : Nat) : Nat := (a % 256 ^ i + b % 256 ^ i) / 256 ^ i
theorem carry_zero (a b : Nat) : carryN a b 0 = 0 := by unfold carryN; simp [Nat.mod_one]
theorem carry_le (a b i : Nat) : carryN a b i ≤ 1 := by
  unfold carryN
  have hp : 0 < 256 ^ i := Nat.pow_pos (by decide)
  have h1 := Nat.mod_lt a hp
  have h2 := Nat.mod_lt b hp
  generalize 256 ^ i = P at *
  rw [Nat.div_le_iff_le_mul_add_pred hp]
  omega
theorem carry_byte (a b i : Nat) : bdig (a + b) i = (carryN a b i + bdig a i + bdig b i) % 256 := by
  unfold carryN bdig
  have hp : 0 < 256 ^ i := Nat.pow_pos (by decide)
  generalize 256 ^ i = P at *
  have e : (a + b) / P = (a % P + b % P) / P + (a / P + b / P) := by
    have h1 := Nat.mod_add_div a P
    have h2 := Nat.mod_add_div b P
    have : a + b = (a % P + b % P) + P * (a / P + b / P) := by rw [Nat.mul_add]; omega
    rw [this, Nat.add_mul_div_left _ _ hp]
  rw [e]
  omega
theorem carry_next (a b i : Nat) : carryN a b (i + 1) = (carryN a b i + bdig a i + bdig b i) / 256 := by
  unfold carryN
  rw [mod_more a i, mod_more b i]
  have hp : 0 < 256 ^ i := Nat.pow_pos (by decide)
  rw [Nat.pow_succ]
  generalize 256 ^ i = P at *
  rw [← Nat.div_div_eq_div_mul, show a % P + P * bdig a i + (b % P + P * bdig b i) = (a % P + b % P) + P * (bdig a i + bdig b i) by rw [Nat.mul_add]; omega, Nat.add_mul_div_left _ _ hp, Nat.add_assoc]
theorem add_set {x R S b k : Nat} {f : Nat → Nat} (hx : bdig (S + b) k = x) (hf : ∀ j, j < 64 → f j = if 32 ≤ j ∧ j < 32 + k then bdig (S + b) (j - 32) else bdig (two R S) j) (j : Nat) (hj : j < 64) : upd f (32 + k) x j = if 32 ≤ j ∧ j < 32 + (k + 1) then bdig (S + b) (j - 32) else bdig (two R S) j := by
  by_cases e : j = 32 + k
  · subst e; rw [upd_same, if_pos (by omega), ← hx]; congr 1; omega
  · rw [upd_other _ _ _ _ e, hf j hj]
    by_cases h : 32 ≤ j ∧ j < 32 + k
    · rw [if_pos h, if_pos (by omega)]
    · rw [if_neg h, if_neg (by omega)]
theorem add_done {R S b k : Nat} {f : Nat → Nat} (hR : R < R256) (hk : ¬ k < 32) (hf : ∀ j, j < 64 → f j = if 32 ≤ j ∧ j < 32 + k then bdig (S + b) (j - 32) else bdig (two R S) j) : B64 f = B64 (bdig (two R (S + b))) := B64_ext fun j hj => by
  rw [hf j hj]
  by_cases h : j < 32
  · rw [if_neg (by omega), two_byte_lo hR h, two_byte_lo hR h]
  · obtain ⟨i, rfl⟩ : ∃ i, j = 32 + i := ⟨j - 32, by omega⟩
    rw [if_pos (by omega), two_byte_hi hR]; congr 1; omega
theorem own_grownO {w w' : World} {b : Nat} {A : Array Value} {t : TypeId} {o : Option Nat} (h : Own w b A t) (hg : w.grownBy w' o) (hb : ∀ g, o = some g → b ≠ g) : Own w' b A t := by
  unfold Own
  cases o with
  | none => rw [hg.block b h.lt (by simp)]; exact h
  | some g => rw [hg.block b h.lt (by simpa using hb g rfl)]; exact h
theorem verify_false3 {T : World → Prop} (F : Low T) {p R S : Nat} {ta : Option Addr} {tc : Nat} {m : List Int} (lp : p < R256) (lR : R < R256) (lS : S < R256) (hl : m.length ≤ 1000) (h : signedB p m R S = false) (w : World) (hT : T w) (hm : Txt w ta tc m) : Calls Tryd.prog 7 #[.agg (B32 (bdig p)), .slice ta m.length tc, .agg (B64 (bdig (two R S)))] w fun x w' => x = .returned (.bool false) ∧ Below w.heap.size w w' := by
  rw [← h]; exact verify_is F lp lR lS hl w hT hm
def factSp3 (n y R S : Nat) (ta : Option Addr) (tc : Nat) (m : List Int) : Nat → Value → Prop
  | 0, vq => vq = .agg (B32 (bdig n))
  | 1, vq => vq = .agg (B32 (bdig y))
  | 2, vq => vq = .agg (B32 (bdig n))
  | 3, vq => vq = .slice ta m.length tc
  | 4, vq => vq = .agg (B64 (bdig (two R S)))
  | 5, vq => ∃ g, vq = .pointer (some ⟨g, 0, none⟩)
  | 6, vq => ∃ g, vq = .pointer (some ⟨g, 0, none⟩)
  | _, _ => True
def valSp0 (y R2 S2 : Nat) (v : Bool) (ja : Option Addr) (jc : Nat) (m : List Int) : Nat → Value
  | 0 => .agg (B32 (bdig y))
  | 1 => .slice ja m.length jc
  | 2 => .agg (B64 (bdig (two R2 S2)))
  | 3 => .bool v
  | 4 => .agg (B32 (bdig y))
  | 5 => .slice ja m.length jc
  | 6 => .agg (B64 (bdig (two R2 S2)))
  | 7 => .bool v
  | 8 => .bool true
  | 9 => .bool true
  | 10 => .bool true
  | 11 => .bool true
  | 12 => .bool true
  | _ => undef
def valSp1 (y2 R S : Nat) (v : Bool) (ja : Option Addr) (jc : Nat) (m : List Int) : Nat → Value
  | 0 => .agg (B32 (bdig y2))
  | 1 => .slice ja m.length jc
  | 2 => .agg (B64 (bdig (two R S)))
  | 3 => .bool v
  | 4 => .agg (B32 (bdig y2))
  | 5 => .slice ja m.length jc
  | 6 => .agg (B64 (bdig (two R S)))
  | 7 => .bool v
  | 8 => .bool true
  | 9 => .bool true
  | 10 => .bool true
  | 11 => .bool true
  | 12 => .bool true
  | _ => undef
def valSp2 (y R S : Nat) (v : Bool) (a3 : Option Addr) (c3 : Nat) (M : List Int) : Nat → Value
  | 0 => .agg (B32 (bdig y))
  | 1 => .slice a3 M.length c3
  | 2 => .agg (B64 (bdig (two R S)))
  | 3 => .bool v
  | 4 => .agg (B32 (bdig y))
  | 5 => .slice a3 M.length c3
  | 6 => .agg (B64 (bdig (two R S)))
  | 7 => .bool v
  | 8 => .bool true
  | 9 => .bool true
  | 10 => .bool true
  | 11 => .bool true
  | 12 => .bool true
  | _ => undef
set_option maxRecDepth 100000 in
set_option maxHeartbeats 4000000 in
theorem spoilt_long {n : Nat} {ta : Option Addr} {tc : Nat} {m : List Int} {at_ wh : Int} (hn : 200 < m.length) (w : World) : Calls Tryd.prog 4 #[.agg (B32 (bdig n)), .slice ta m.length tc, .int .i64 at_, .int .i64 wh] w fun x w' => x = .returned (.bool true) ∧ Below w.heap.size w w' := by
  have hki : (200 : Int) < (m.length : Int) := by omega
  go_enter Tryd.func4, Tryd.ntmps4
  go_wp2
  go_ret
  exact ⟨rfl, (Below.refl _ _).alloc (Nat.le_refl _) _⟩
set_option maxRecDepth 100000 in
set_option maxHeartbeats 4000000 in
theorem spoilt_short {T : World → Prop} (F : Low T) {n : Nat} {ta : Option Addr} {tc : Nat} {m : List Int} {at_ wh : Int} (hn : m.length ≤ 200) (w : World) (hT : T w) (hm : Txt w ta tc m) : Calls Tryd.prog 4 #[.agg (B32 (bdig n)), .slice ta m.length tc, .int .i64 at_, .int .i64 wh] w fun x w' => x = .returned (.bool true) ∧ Below w.heap.size w w' := by
  have hz := (zero_of_info zeroB32).1
  have hz64 := (zero_of_info zeroB64).1
  have hki : ¬ (200 : Int) < (m.length : Int) := by omega
  have hki' : decide ((200 : Int) < (m.length : Int)) = false := decide_eq_false hki
  have hl1 : Hid (m.length ≤ 1000) := by show _ ≤ _; omega
  obtain ⟨y, Hy⟩ : ∃ y, Hid (pubOf n = y) := ⟨_, rfl⟩
  obtain ⟨R, HR⟩ : ∃ R, Hid (rOf n m = R) := ⟨_, rfl⟩
  obtain ⟨S, HS⟩ : ∃ S, Hid (sOf n m = S) := ⟨_, rfl⟩
  have lR : Hid (R < R256) := by show _ < _; rw [← HR.out]; exact rOf_lt n m
  have ly : Hid (y < R256) := by show _ < _; rw [← Hy.out]; exact pubOf_lt n
  have lS : Hid (S < R256) := by show _ < _; rw [← HS.out]; exact sOf_lt2 n m
  have lSL : Hid (S < LL) := by show _ < _; rw [← HS.out]; exact sOf_lt n m
  have hpub : Hid (∀ w, T w → Calls Tryd.prog 11 #[.agg (B32 (bdig n))] w fun x w' => x = .returned (.agg (B32 (bdig y))) ∧ Below w.heap.size w w') := fun w hT => by rw [← Hy.out]; exact public_is F n w hT
  have hsig : Hid (∀ w, T w → Txt w ta tc m → Calls Tryd.prog 12 #[.agg (B32 (bdig n)), .slice ta m.length tc] w fun x w' => x = .returned (.agg (B64 (bdig (two R S)))) ∧ Below w.heap.size w w') := fun w hT hm => by rw [← HR.out, ← HS.out]; exact sign_is F n hl1.out w hT hm
  go_enter Tryd.func4, Tryd.ntmps4
  go_upto_region 1 with fail
  have hK := (Kp.nil w).alloc (B32 (bdig n)) 22
  generalize w.alloc (.cells (B32 (bdig n)) 22) = W at *
  obtain ⟨bA, HbA⟩ : ∃ b, Hid (w.heap.size = b) := ⟨_, rfl⟩
  have le_bA : Hid (w.heap.size ≤ bA) := by show _ ≤ _; have := HbA.out; omega
  rw [HbA.out] at hK ⊢
  go_upto_region 3 with fail
  refine wp_region_told 112 (by kernel_rfl) (by kernel_rfl) (by rfl) (factSp3 n y R S ta tc m) (fun L vs => MkN 2 [(bA, B32 (bdig n), 22)] w (pick2 (B32 fun _ => 0) (B64 fun _ => 0)) (pick2 (B32 (bdig y)) (B64 (bdig (two R S)))) (pick2 (22) (24)) (fun i => L (5 + i)) (fun i => L (7 + i)) (fun i => vs (5 + i))) (fun _ => MkN.drew hK (fun _ _ => rfl)) ?_ ?_
  · intro L vs ac wc i o hF hLi ho hd K hK
    rcases i with _ | _ | _ | _ | _ | _ | _ | _ | _ | i
    · have ho' := ho
      obtain rfl := Option.some.inj ho
      have f4 : ac.tmps.getD 4 undef = .pointer (some ⟨bA, 0, none⟩) := slott hF 0 hLi 4 (by kernel_rfl)
      refine step_do ho' (wanted_free rfl) ?_
      exact wp_load_own 22 (.tmp 4) rfl bA f4 (B32 (bdig n)) _ 22 (hF.j.1.at bA (B32 (bdig n)) 22 (.head _)) Tryd.underlying22 rfl (B32_info _) (hK _ _ (.inr rfl) (hF.j.congr (fun i hi => if_off (by decide) hi) (fun i hi => if_off (by decide) hi) (fun i hi => if_off (by decide) hi)))
    · have ho' := ho
      obtain rfl := Option.some.inj ho
      have f18 : ac.tmps.getD 18 undef = .agg (B32 (bdig n)) := (factt hF hd 0 rfl rfl (by kernel_rfl)).1.trans (factt hF hd 0 rfl rfl (by kernel_rfl)).2
      refine step_do ho' (wanted_free rfl) ?_
      unfold Oper.wp
      go_simp
      refine (hpub.out _ (F.keep _ _ hT hF.j.1.2)).mono ?_
      rintro e w' ⟨rfl, hB⟩
      exact hK _ _ (.inr rfl) (((hF.j.congr (fun i hi => if_off (by decide) hi) (fun i hi => if_off (by decide) hi) (fun i hi => if_off (by decide) hi))).below hB)
    · have ho' := ho
      obtain rfl := Option.some.inj ho
      have f4 : ac.tmps.getD 4 undef = .pointer (some ⟨bA, 0, none⟩) := slott hF 2 hLi 4 (by kernel_rfl)
      refine step_do ho' (wanted_free rfl) ?_
      exact wp_load_own 22 (.tmp 4) rfl bA f4 (B32 (bdig n)) _ 22 (hF.j.1.at bA (B32 (bdig n)) 22 (.head _)) Tryd.underlying22 rfl (B32_info _) (hK _ _ (.inr rfl) (hF.j.congr (fun i hi => if_off (by decide) hi) (fun i hi => if_off (by decide) hi) (fun i hi => if_off (by decide) hi)))
    · have ho' := ho
      obtain rfl := Option.some.inj ho
      have f1 : ac.tmps.getD 1 undef = .slice ta m.length tc := slott hF 3 hLi 1 (by kernel_rfl)
      refine step_do ho' (wanted_free rfl) ?_
      unfold Oper.wp
      go_simp
      exact hK _ _ (.inr rfl) (hF.j.congr (fun i hi => if_off (by decide) hi) (fun i hi => if_off (by decide) hi) (fun i hi => if_off (by decide) hi))
    · have ho' := ho
      obtain rfl := Option.some.inj ho
      have f20 : ac.tmps.getD 20 undef = .agg (B32 (bdig n)) := (factt hF hd 2 rfl rfl (by kernel_rfl)).1.trans (factt hF hd 2 rfl rfl (by kernel_rfl)).2
      have f21 : ac.tmps.getD 21 undef = .slice ta m.length tc := (factt hF hd 3 rfl rfl (by kernel_rfl)).1.trans (factt hF hd 3 rfl rfl (by kernel_rfl)).2
      refine step_do ho' (wanted_free rfl) ?_
      unfold Oper.wp
      go_simp
      refine (hsig.out _ (F.keep _ _ hT hF.j.1.2) (hm.below hF.j.1.2)).mono ?_
      rintro e w' ⟨rfl, hB⟩
      exact hK _ _ (.inr rfl) (((hF.j.congr (fun i hi => if_off (by decide) hi) (fun i hi => if_off (by decide) hi) (fun i hi => if_off (by decide) hi))).below hB)
    · have ho' := ho
      obtain rfl := Option.some.inj ho
      refine step_do ho' (wanted_free rfl) ?_
      have hs := notyett hF 5 hLi 7 rfl (by kernel_rfl)
      unfold Oper.wp
      go_simp
      exact hK _ _ (.inr ⟨_, rfl⟩) (hF.j.alloc 0 (fun i _ hne => if_oth (k := 0) rfl hne) (fun i hi => if_off (by decide) hi) (fun i _ hne => if_oth (k := 0) rfl hne) rfl hs)
    · have ho' := ho
      obtain rfl := Option.some.inj ho
      refine step_do ho' (wanted_free rfl) ?_
      have hs := notyett hF 6 hLi 8 rfl (by kernel_rfl)
      unfold Oper.wp
      go_simp
      exact hK _ _ (.inr ⟨_, rfl⟩) (hF.j.alloc 1 (fun i _ hne => if_oth (k := 1) rfl hne) (fun i hi => if_off (by decide) hi) (fun i _ hne => if_oth (k := 1) rfl hne) rfl hs)
    · have ho' := ho
      obtain rfl := Option.some.inj ho
      have f19 : ac.tmps.getD 19 undef = .agg (B32 (bdig y)) := (factt hF hd 1 rfl rfl (by kernel_rfl)).1.trans (factt hF hd 1 rfl rfl (by kernel_rfl)).2
      refine step_do ho' (wanted_free rfl) ?_
      obtain ⟨fg, gq, hg⟩ := factt hF hd 5 rfl rfl (by kernel_rfl)
      have hm_ := dep hd 5 (by kernel_rfl)
      have hj := hF.j
      rw [hg] at fg
      have hj2 := hj.at (k := 0) (by decide) hm_ hg hLi
      refine wp_store_own 22 (.tmp 9) (.tmp 19) rfl gq (B32 (bdig y)) fg f19 hj2.2.2 (B32_sizes _ _) (B32_info _) (B32_one _) rfl ?_
      exact hK undef _ (.inl rfl) (hj.storeA (k := 0) (A := B32 (bdig y)) rfl (by decide) hm_ hg hLi (B32_sizes _ _) (fun i hi => if_off (by decide) hi) (fun i _ hne => if_oth (k := 0) rfl hne) (fun i hi => if_off (by decide) hi) rfl)
    · have ho' := ho
      obtain rfl := Option.some.inj ho
      have f22 : ac.tmps.getD 22 undef = .agg (B64 (bdig (two R S))) := (factt hF hd 4 rfl rfl (by kernel_rfl)).1.trans (factt hF hd 4 rfl rfl (by kernel_rfl)).2
      refine step_do ho' (wanted_free rfl) ?_
      obtain ⟨fg, gq, hg⟩ := factt hF hd 6 rfl rfl (by kernel_rfl)
      have hm_ := dep hd 6 (by kernel_rfl)
      have hj := hF.j
      rw [hg] at fg
      have hj2 := hj.at (k := 1) (by decide) hm_ hg hLi
      refine wp_store_own 24 (.tmp 10) (.tmp 22) rfl gq (B64 (bdig (two R S))) fg f22 hj2.2.2 (B64_sizes _ _) (B64_info _) (B64_one _) rfl ?_
      exact hK undef _ (.inl rfl) (hj.storeA (k := 1) (A := B64 (bdig (two R S))) rfl (by decide) hm_ hg hLi (B64_sizes _ _) (fun i hi => if_off (by decide) hi) (fun i _ hne => if_oth (k := 1) rfl hne) (fun i hi => if_off (by decide) hi) rfl)
    · cases ho
  intro L vs V1 hL hJ hf
  obtain ⟨g2, hgg2⟩ := hf 5 _ _ rfl rfl
  obtain ⟨le0, apg2, owng2⟩ := hJ.gotA (k := 0) (A := B32 (bdig y)) rfl (by decide) (hL 5 (by decide)) hgg2 (hL 7 (by decide))
  have le_g2 := show Hid _ from le0
  clear le0
  obtain ⟨g3, hgg3⟩ := hf 6 _ _ rfl rfl
  obtain ⟨le0, apg3, owng3⟩ := hJ.gotA (k := 1) (A := B64 (bdig (two R S))) rfl (by decide) (hL 6 (by decide)) hgg3 (hL 8 (by decide))
  have le_g3 := show Hid _ from le0
  clear le0
  have ne_g2_g3 : Hid (g2 ≠ g3) := hJ.apart (i := 0) (j := 1) (by decide) (by decide) (by decide) (hL 5 (by decide)) (hL 6 (by decide)) hgg2 hgg3
  have ne_bA_g2 : Hid (bA ≠ g2) := apg2 (bA, B32 (bdig n), 22) (.head _)
  have ne_bA_g3 : Hid (bA ≠ g3) := apg3 (bA, B32 (bdig n), 22) (.head _)
  have hK : Kp [(g3, B64 (bdig (two R S)), 24), (g2, B32 (bdig y), 22), (bA, B32 (bdig n), 22)] w V1 := ((hJ.1.cons owng2).cons owng3)
  have e0 : vs 0 = _ := hf 0 _ _ rfl rfl
  have e1 : vs 1 = _ := hf 1 _ _ rfl rfl
  have e2 : vs 2 = _ := hf 2 _ _ rfl rfl
  have e3 : vs 3 = _ := hf 3 _ _ rfl rfl
  have e4 : vs 4 = _ := hf 4 _ _ rfl rfl
  simp only [putAll, Nat.zero_add, Nat.reduceAdd, e0, e1, e2, e3, e4, hgg2, hgg3, Act.put, List.setIfInBounds_toArray, List.set_cons_succ, List.set_cons_zero]
  clear hJ hf hL e0 e1 e2 e3 e4 hgg2 hgg3 apg2 apg3 owng2 owng3
  go_wp2_with fail
  have lt_g3 := (hK.at g3 (B64 (bdig (two R S))) 24 (.head _)).lt
  have lt_g2 := (hK.at g2 (B32 (bdig y)) 22 (.tail _ (.head _))).lt
  have lt_bA := (hK.at bA (B32 (bdig n)) 22 (.tail _ (.tail _ (.head _)))).lt
  have hw0 : Hid (w.heap.size ≤ V1.heap.size) := hK.2.size
  have ltH_g3 : Hid (g3 < V1.heap.size) := lt_g3
  have ltH_g2 : Hid (g2 < V1.heap.size) := lt_g2
  have ltH_bA : Hid (bA < V1.heap.size) := lt_bA
  refine (twin_is (hm.below hK.2) hl1.out (hK.at bA (B32 (bdig n)) 22 (.tail _ (.tail _ (.head _))))).mono ?_
  rintro e V4 ⟨ja, jc, bX, X, tX, rfl, hO, oX, hap, bw⟩
  have hK := (hK.below bw).cons oX
  have hbs := show Hid _ from bw.size
  clear bw oX
  replace hO := show Hid _ from hO
  have hTx : Hid (∀ W, Own W bX X tX → Txt W ja jc m) := fun W h => txt_of_own (hO.out W h) hm.1.2.2.2.1
  have ne_g3_bX : Hid (g3 ≠ bX) := hap g3 lt_g3 (Ne.symm ne_bA_g3.out)
  have ne_g2_bX : Hid (g2 ≠ bX) := hap g2 lt_g2 (Ne.symm ne_bA_g2.out)
  clear hap lt_g3 lt_g2 lt_bA
  go_upto_region 5 with fail
  have hq4 : (IntKind.u64.wrap wh).tmod 4 = 0 ∨ (IntKind.u64.wrap wh).tmod 4 = 1 ∨ (IntKind.u64.wrap wh).tmod 4 = 2 ∨ (IntKind.u64.wrap wh).tmod 4 = 3 := tmod4 _
  rcases hq4 with hq4 | hq4 | hq4 | hq4
  · obtain ⟨a, ha, la⟩ : ∃ a : Nat, (IntKind.u64.wrap at_).tmod 512 = (a : Int) ∧ a < 512 := tmodN _ (u64_of at_) 512
    obtain ⟨d, hd, ld⟩ : ∃ d : Nat, (a : Int).tdiv 8 = (d : Int) ∧ d < 64 := ⟨a / 8, tdiv8 a, by omega⟩
    obtain ⟨e, he, le⟩ : ∃ e : Nat, (a : Int).tmod 8 = (e : Int) ∧ e < 8 := ⟨a % 8, tmod8 a, by omega⟩
    have a0 : (0 : Int) ≤ (a : Int) := by omega
    have a1 : (a : Int) < 512 := by omega
    have d0 : (0 : Int) ≤ (d : Int) := by omega
    have d1 : (d : Int) < 64 := by omega
    have e0 : (0 : Int) ≤ (e : Int) := by omega
    have e1 : (e : Int) < 8 := by omega
    obtain ⟨u, Hu⟩ : ∃ u, Hid (bdig (two R S) d = u) := ⟨_, rfl⟩
    have cq : V4.cell? ⟨g3, d, none⟩ = some (.int .u8 (u : Int)) := by have := (hK.at g3 (B64 (bdig (two R S))) 24 (.tail _ (.head _))).cell (B64_at (bdig (two R S)) d ld); rw [Hu.out] at this; exact this
    have fq := (hK.at g3 (B64 (bdig (two R S))) 24 (.tail _ (.head _))).frozen d
    have lu : u < 256 := by rw [← Hu.out]; exact bdig_lt _ _
    obtain ⟨x, lx, hx⟩ := xor_nat lu le
    replace hx := show Hid _ from hx
    replace lx := show Hid _ from lx
    clear lu
    go_upto_region 23 with fail
    rw [hx.out]
    have hK : Kp [(g3, B64 (bdig (two R S)), 24), (bX, X, tX), (g2, B32 (bdig y), 22), (bA, B32 (bdig n), 22)] w V4 := ((((hK.none.cons (hK.at bA (B32 (bdig n)) 22 (.tail _ (.tail _ (.tail _ (.head _)))))).cons (hK.at g2 (B32 (bdig y)) 22 (.tail _ (.tail _ (.head _))))).cons (hK.at bX (X) tX (.head _))).cons (hK.at g3 (B64 (bdig (two R S))) 24 (.tail _ (.head _))))
    have hK := Kp.setCell (i := d) (v := .int .u8 (x : Int)) hK (by simp only [List.forall_mem_cons, List.not_mem_nil, false_implies, implies_true, and_true]; exact ⟨(Ne.symm ne_g3_bX.out), ne_g2_g3.out, ne_bA_g3.out⟩) le_g3.out
    rw [B64_set (bdig (two R S)) d x ld] at hK
    generalize V4.setCell ⟨g3, d, none⟩ (.int .u8 (x : Int)) = V5 at *
    clear cq fq
    obtain ⟨z2, lz2, ez⟩ := flip64 (two R S) d x ld lx.out
    rw [ez, ← two_parts z2] at hK
    clear ez
    obtain ⟨R2, HR2⟩ : ∃ R2, Hid (z2 % R256 = R2) := ⟨_, rfl⟩
    obtain ⟨S2, HS2⟩ : ∃ S2, Hid (z2 / R256 = S2) := ⟨_, rfl⟩
    have lR2 : Hid (R2 < R256) := by show _ < _; rw [← HR2.out]; exact lo_lt _
    have lS2 : Hid (S2 < R256) := by show _ < _; rw [← HS2.out]; exact hi_lt lz2
    rw [HR2.out, HS2.out] at hK
    clear lz2
    obtain ⟨v, Hv⟩ : ∃ v, Hid (signedB y m R2 S2 = v) := ⟨_, rfl⟩
    have hvv : (v == v) = true := beq_self_eq_true v
    have hver : Hid (∀ a c w, T w → Txt w a c m → Calls Tryd.prog 7 #[.agg (B32 (bdig y)), .slice a m.length c, .agg (B64 (bdig (two R2 S2)))] w fun x w' => x = .returned (.bool v) ∧ Below w.heap.size w w') := fun a c w hT hm => by rw [← Hv.out]; exact verify_is F ly.out lR2.out lS2.out hl1.out w hT hm
    have hpver : Hid (∀ a c w, Txt w a c m → Calls Tryd.prog 8 #[.agg (B32 (bdig y)), .slice a m.length c, .agg (B64 (bdig (two R2 S2)))] w fun x w' => x = .returned (.bool v) ∧ Below w.heap.size w w') := fun a c w hm => by rw [← Hv.out]; exact pverify_is ly.out lR2.out lS2.out hl1.out w hm
    refine wp_region_vals 112 (by kernel_rfl) (by kernel_rfl) (by rfl) (valSp0 y R2 S2 v ja jc m) (fun _ => Kp [(g3, B64 (bdig (two R2 S2)), 24), (bX, X, tX), (g2, B32 (bdig y), 22), (bA, B32 (bdig n), 22)] w) hK.drew ?_ ?_
    · intro L ac wc i o hF hLi ho hd K hK
      rcases i with _ | _ | _ | _ | _ | _ | _ | _ | _ | _ | _ | _ | _ | i
      · have ho' := ho
        obtain rfl := Option.some.inj ho
        have f9 : ac.tmps.getD 9 undef = .pointer (some ⟨g2, 0, none⟩) := slotv hF 0 hLi 9 (by kernel_rfl)
        refine step_do ho' (wanted_free rfl) ?_
        exact wp_load_own 22 (.tmp 9) rfl g2 f9 (B32 (bdig y)) _ 22 (hF.j.at g2 (B32 (bdig y)) 22 (.tail _ (.tail _ (.head _)))) Tryd.underlying22 rfl (B32_info _) (hK _ _ (.inr rfl) hF.j)
      · have ho' := ho
        obtain rfl := Option.some.inj ho
        have f11 : ac.tmps.getD 11 undef = .slice ja m.length jc := slotv hF 1 hLi 11 (by kernel_rfl)
        refine step_do ho' (wanted_free rfl) ?_
        unfold Oper.wp
        go_simp
        exact hK _ _ (.inr rfl) hF.j
      · have ho' := ho
        obtain rfl := Option.some.inj ho
        have f10 : ac.tmps.getD 10 undef = .pointer (some ⟨g3, 0, none⟩) := slotv hF 2 hLi 10 (by kernel_rfl)
        refine step_do ho' (wanted_free rfl) ?_
        exact wp_load_own 24 (.tmp 10) rfl g3 f10 (B64 (bdig (two R2 S2))) _ 24 (hF.j.at g3 (B64 (bdig (two R2 S2))) 24 (.head _)) Tryd.underlying24 rfl (B64_info _) (hK _ _ (.inr rfl) hF.j)
      · have ho' := ho
        obtain rfl := Option.some.inj ho
        have f100 : ac.tmps.getD 100 undef = .agg (B32 (bdig y)) := valv hF hd 0 rfl rfl (by kernel_rfl)
        have f101 : ac.tmps.getD 101 undef = .slice ja m.length jc := valv hF hd 1 rfl rfl (by kernel_rfl)
        have f102 : ac.tmps.getD 102 undef = .agg (B64 (bdig (two R2 S2))) := valv hF hd 2 rfl rfl (by kernel_rfl)
        refine step_do ho' (wanted_free rfl) ?_
        unfold Oper.wp
        go_simp
        refine (hver.out _ _ _ (F.keep _ _ hT hF.j.2) (hTx.out _ (hF.j.at bX X tX (.tail _ (.head _))))).mono ?_
        rintro e w' ⟨rfl, hB⟩
        exact hK _ _ (.inr rfl) ((hF.j).below hB)
      · have ho' := ho
        obtain rfl := Option.some.inj ho
        have f9 : ac.tmps.getD 9 undef = .pointer (some ⟨g2, 0, none⟩) := slotv hF 4 hLi 9 (by kernel_rfl)
        refine step_do ho' (wanted_free rfl) ?_
        exact wp_load_own 22 (.tmp 9) rfl g2 f9 (B32 (bdig y)) _ 22 (hF.j.at g2 (B32 (bdig y)) 22 (.tail _ (.tail _ (.head _)))) Tryd.underlying22 rfl (B32_info _) (hK _ _ (.inr rfl) hF.j)
      · have ho' := ho
        obtain rfl := Option.some.inj ho
        have f11 : ac.tmps.getD 11 undef = .slice ja m.length jc := slotv hF 5 hLi 11 (by kernel_rfl)
        refine step_do ho' (wanted_free rfl) ?_
        unfold Oper.wp
        go_simp
        exact hK _ _ (.inr rfl) hF.j
      · have ho' := ho
        obtain rfl := Option.some.inj ho
        have f10 : ac.tmps.getD 10 undef = .pointer (some ⟨g3, 0, none⟩) := slotv hF 6 hLi 10 (by kernel_rfl)
        refine step_do ho' (wanted_free rfl) ?_
        exact wp_load_own 24 (.tmp 10) rfl g3 f10 (B64 (bdig (two R2 S2))) _ 24 (hF.j.at g3 (B64 (bdig (two R2 S2))) 24 (.head _)) Tryd.underlying24 rfl (B64_info _) (hK _ _ (.inr rfl) hF.j)
      · have ho' := ho
        obtain rfl := Option.some.inj ho
        have f104 : ac.tmps.getD 104 undef = .agg (B32 (bdig y)) := valv hF hd 4 rfl rfl (by kernel_rfl)
        have f105 : ac.tmps.getD 105 undef = .slice ja m.length jc := valv hF hd 5 rfl rfl (by kernel_rfl)
        have f106 : ac.tmps.getD 106 undef = .agg (B64 (bdig (two R2 S2))) := valv hF hd 6 rfl rfl (by kernel_rfl)
        refine step_do ho' (wanted_free rfl) ?_
        unfold Oper.wp
        go_simp
        refine (hpver.out _ _ _ (hTx.out _ (hF.j.at bX X tX (.tail _ (.head _))))).mono ?_
        rintro e w' ⟨rfl, hB⟩
        exact hK _ _ (.inr rfl) ((hF.j).below hB)
      · have ho' := ho
        obtain rfl := Option.some.inj ho
        have f103 : ac.tmps.getD 103 undef = .bool v := valv hF hd 3 rfl rfl (by kernel_rfl)
        have f107 : ac.tmps.getD 107 undef = .bool v := valv hF hd 7 rfl rfl (by kernel_rfl)
        refine step_do ho' (wanted_free rfl) ?_
        unfold Oper.wp
        go_simp
        exact hK _ _ (.inr rfl) hF.j
      · have ho' := ho
        obtain rfl := Option.some.inj ho
        have f108 : ac.tmps.getD 108 undef = .bool true := valv hF hd 8 rfl rfl (by kernel_rfl)
        refine step_do ho' (wanted_free rfl) ?_
        unfold Oper.wp
        go_simp
        exact hK _ _ (.inr rfl) hF.j
      · have ho' := ho
        obtain rfl := Option.some.inj ho
        have fg : ac.tmps.getD 109 undef = .bool true := valv hF hd 9 rfl rfl (by kernel_rfl)
        refine step_do ho' (wanted_so (g := 9) rfl rfl rfl fg) ?_
        unfold Oper.wp
        go_simp
        refine (wakes_is F _ (F.keep _ _ hT hF.j.2)).mono ?_
        rintro e w' ⟨rfl, hB⟩
        exact hK _ _ (.inr rfl) ((hF.j).below hB)
      · have ho' := ho
        obtain rfl := Option.some.inj ho
        have f109 : ac.tmps.getD 109 undef = .bool true := valv hF hd 9 rfl rfl (by kernel_rfl)
        have f110 : ac.tmps.getD 110 undef = .bool true := valv hF hd 10 rfl rfl (by kernel_rfl)
        refine step_do ho' (wanted_free rfl) ?_
        unfold Oper.wp
        go_simp
        exact hK _ _ (.inr rfl) hF.j
      · have ho' := ho
        obtain rfl := Option.some.inj ho
        have f111 : ac.tmps.getD 111 undef = .bool true := valv hF hd 11 rfl rfl (by kernel_rfl)
        refine step_do ho' (wanted_free rfl) ?_
        unfold Oper.wp
        go_simp
        exact hK _ _ (.inr rfl) hF.j
      · cases ho
    intro L V6 hL hKq
    have hK : Kp [(g3, B64 (bdig (two R2 S2)), 24), (bX, X, tX), (g2, B32 (bdig y), 22), (bA, B32 (bdig n), 22)] w V6 := hKq
    clear hKq hL
    simp only [putAll, valSp0, Act.put, List.setIfInBounds_toArray, List.set_cons_succ, List.set_cons_zero]
    go_wp2
    go_ret
    exact ⟨rfl, hK.2⟩
  · obtain ⟨a, ha, la⟩ : ∃ a : Nat, (IntKind.u64.wrap at_).tmod 256 = (a : Int) ∧ a < 256 := tmodN _ (u64_of at_) 256
    obtain ⟨d, hd, ld⟩ : ∃ d : Nat, (a : Int).tdiv 8 = (d : Int) ∧ d < 32 := ⟨a / 8, tdiv8 a, by omega⟩
    obtain ⟨e, he, le⟩ : ∃ e : Nat, (a : Int).tmod 8 = (e : Int) ∧ e < 8 := ⟨a % 8, tmod8 a, by omega⟩
    have a0 : (0 : Int) ≤ (a : Int) := by omega
    have a1 : (a : Int) < 256 := by omega
    have d0 : (0 : Int) ≤ (d : Int) := by omega
    have d1 : (d : Int) < 32 := by omega
    have e0 : (0 : Int) ≤ (e : Int) := by omega
    have e1 : (e : Int) < 8 := by omega
    obtain ⟨u, Hu⟩ : ∃ u, Hid (bdig y d = u) := ⟨_, rfl⟩
    have cq : V4.cell? ⟨g2, d, none⟩ = some (.int .u8 (u : Int)) := by have := (hK.at g2 (B32 (bdig y)) 22 (.tail _ (.tail _ (.head _)))).cell (B32_at (bdig y) d ld); rw [Hu.out] at this; exact this
    have fq := (hK.at g2 (B32 (bdig y)) 22 (.tail _ (.tail _ (.head _)))).frozen d
    have lu : u < 256 := by rw [← Hu.out]; exact bdig_lt _ _
    obtain ⟨x, lx, hx⟩ := xor_nat lu le
    replace hx := show Hid _ from hx
    replace lx := show Hid _ from lx
    clear lu
    go_upto_region 23 with fail
    rw [hx.out]
    have hK : Kp [(g2, B32 (bdig y), 22), (bX, X, tX), (g3, B64 (bdig (two R S)), 24), (bA, B32 (bdig n), 22)] w V4 := ((((hK.none.cons (hK.at bA (B32 (bdig n)) 22 (.tail _ (.tail _ (.tail _ (.head _)))))).cons (hK.at g3 (B64 (bdig (two R S))) 24 (.tail _ (.head _)))).cons (hK.at bX (X) tX (.head _))).cons (hK.at g2 (B32 (bdig y)) 22 (.tail _ (.tail _ (.head _)))))
    have hK := Kp.setCell (i := d) (v := .int .u8 (x : Int)) hK (by simp only [List.forall_mem_cons, List.not_mem_nil, false_implies, implies_true, and_true]; exact ⟨(Ne.symm ne_g2_bX.out), (Ne.symm ne_g2_g3.out), ne_bA_g2.out⟩) le_g2.out
    rw [B32_set (bdig y) d x ld] at hK
    generalize V4.setCell ⟨g2, d, none⟩ (.int .u8 (x : Int)) = V5 at *
    clear cq fq
    obtain ⟨y2, ly2, ez⟩ := flip32 y d x ld lx.out
    rw [ez] at hK
    replace ly2 := show Hid _ from ly2
    clear ez
    obtain ⟨v, Hv⟩ : ∃ v, Hid (signedB y2 m R S = v) := ⟨_, rfl⟩
    have hvv : (v == v) = true := beq_self_eq_true v
    have hver : Hid (∀ a c w, T w → Txt w a c m → Calls Tryd.prog 7 #[.agg (B32 (bdig y2)), .slice a m.length c, .agg (B64 (bdig (two R S)))] w fun x w' => x = .returned (.bool v) ∧ Below w.heap.size w w') := fun a c w hT hm => by rw [← Hv.out]; exact verify_is F ly2.out lR.out lS.out hl1.out w hT hm
    have hpver : Hid (∀ a c w, Txt w a c m → Calls Tryd.prog 8 #[.agg (B32 (bdig y2)), .slice a m.length c, .agg (B64 (bdig (two R S)))] w fun x w' => x = .returned (.bool v) ∧ Below w.heap.size w w') := fun a c w hm => by rw [← Hv.out]; exact pverify_is ly2.out lR.out lS.out hl1.out w hm
    refine wp_region_vals 112 (by kernel_rfl) (by kernel_rfl) (by rfl) (valSp1 y2 R S v ja jc m) (fun _ => Kp [(g2, B32 (bdig y2), 22), (bX, X, tX), (g3, B64 (bdig (two R S)), 24), (bA, B32 (bdig n), 22)] w) hK.drew ?_ ?_
    · intro L ac wc i o hF hLi ho hd K hK
      rcases i with _ | _ | _ | _ | _ | _ | _ | _ | _ | _ | _ | _ | _ | i
      · have ho' := ho
        obtain rfl := Option.some.inj ho
        have f9 : ac.tmps.getD 9 undef = .pointer (some ⟨g2, 0, none⟩) := slotv hF 0 hLi 9 (by kernel_rfl)
        refine step_do ho' (wanted_free rfl) ?_
        exact wp_load_own 22 (.tmp 9) rfl g2 f9 (B32 (bdig y2)) _ 22 (hF.j.at g2 (B32 (bdig y2)) 22 (.head _)) Tryd.underlying22 rfl (B32_info _) (hK _ _ (.inr rfl) hF.j)
      · have ho' := ho
        obtain rfl := Option.some.inj ho
        have f11 : ac.tmps.getD 11 undef = .slice ja m.length jc := slotv hF 1 hLi 11 (by kernel_rfl)
        refine step_do ho' (wanted_free rfl) ?_
        unfold Oper.wp
        go_simp
        exact hK _ _ (.inr rfl) hF.j
      · have ho' := ho
        obtain rfl := Option.some.inj ho
        have f10 : ac.tmps.getD 10 undef = .pointer (some ⟨g3, 0, none⟩) := slotv hF 2 hLi 10 (by kernel_rfl)
        refine step_do ho' (wanted_free rfl) ?_
        exact wp_load_own 24 (.tmp 10) rfl g3 f10 (B64 (bdig (two R S))) _ 24 (hF.j.at g3 (B64 (bdig (two R S))) 24 (.tail _ (.tail _ (.head _)))) Tryd.underlying24 rfl (B64_info _) (hK _ _ (.inr rfl) hF.j)
      · have ho' := ho
        obtain rfl := Option.some.inj ho
        have f100 : ac.tmps.getD 100 undef = .agg (B32 (bdig y2)) := valv hF hd 0 rfl rfl (by kernel_rfl)
        have f101 : ac.tmps.getD 101 undef = .slice ja m.length jc := valv hF hd 1 rfl rfl (by kernel_rfl)
        have f102 : ac.tmps.getD 102 undef = .agg (B64 (bdig (two R S))) := valv hF hd 2 rfl rfl (by kernel_rfl)
        refine step_do ho' (wanted_free rfl) ?_
        unfold Oper.wp
        go_simp
        refine (hver.out _ _ _ (F.keep _ _ hT hF.j.2) (hTx.out _ (hF.j.at bX X tX (.tail _ (.head _))))).mono ?_
        rintro e w' ⟨rfl, hB⟩
        exact hK _ _ (.inr rfl) ((hF.j).below hB)
      · have ho' := ho
        obtain rfl := Option.some.inj ho
        have f9 : ac.tmps.getD 9 undef = .pointer (some ⟨g2, 0, none⟩) := slotv hF 4 hLi 9 (by kernel_rfl)
        refine step_do ho' (wanted_free rfl) ?_
        exact wp_load_own 22 (.tmp 9) rfl g2 f9 (B32 (bdig y2)) _ 22 (hF.j.at g2 (B32 (bdig y2)) 22 (.head _)) Tryd.underlying22 rfl (B32_info _) (hK _ _ (.inr rfl) hF.j)
      · have ho' := ho
        obtain rfl := Option.some.inj ho
        have f11 : ac.tmps.getD 11 undef = .slice ja m.length jc := slotv hF 5 hLi 11 (by kernel_rfl)
        refine step_do ho' (wanted_free rfl) ?_
        unfold Oper.wp
        go_simp
        exact hK _ _ (.inr rfl) hF.j
      · have ho' := ho
        obtain rfl := Option.some.inj ho
        have f10 : ac.tmps.getD 10 undef = .pointer (some ⟨g3, 0, none⟩) := slotv hF 6 hLi 10 (by kernel_rfl)
        refine step_do ho' (wanted_free rfl) ?_
        exact wp_load_own 24 (.tmp 10) rfl g3 f10 (B64 (bdig (two R S))) _ 24 (hF.j.at g3 (B64 (bdig (two R S))) 24 (.tail _ (.tail _ (.head _)))) Tryd.underlying24 rfl (B64_info _) (hK _ _ (.inr rfl) hF.j)
      · have ho' := ho
        obtain rfl := Option.some.inj ho
        have f104 : ac.tmps.getD 104 undef = .agg (B32 (bdig y2)) := valv hF hd 4 rfl rfl (by kernel_rfl)
        have f105 : ac.tmps.getD 105 undef = .slice ja m.length jc := valv hF hd 5 rfl rfl (by kernel_rfl)
        have f106 : ac.tmps.getD 106 undef = .agg (B64 (bdig (two R S))) := valv hF hd 6 rfl rfl (by kernel_rfl)
        refine step_do ho' (wanted_free rfl) ?_
        unfold Oper.wp
        go_simp
        refine (hpver.out _ _ _ (hTx.out _ (hF.j.at bX X tX (.tail _ (.head _))))).mono ?_
        rintro e w' ⟨rfl, hB⟩
        exact hK _ _ (.inr rfl) ((hF.j).below hB)
      · have ho' := ho
        obtain rfl := Option.some.inj ho
        have f103 : ac.tmps.getD 103 undef = .bool v := valv hF hd 3 rfl rfl (by kernel_rfl)
        have f107 : ac.tmps.getD 107 undef = .bool v := valv hF hd 7 rfl rfl (by kernel_rfl)
        refine step_do ho' (wanted_free rfl) ?_
        unfold Oper.wp
        go_simp
        exact hK _ _ (.inr rfl) hF.j
      · have ho' := ho
        obtain rfl := Option.some.inj ho
        have f108 : ac.tmps.getD 108 undef = .bool true := valv hF hd 8 rfl rfl (by kernel_rfl)
        refine step_do ho' (wanted_free rfl) ?_
        unfold Oper.wp
        go_simp
        exact hK _ _ (.inr rfl) hF.j
      · have ho' := ho
        obtain rfl := Option.some.inj ho
        have fg : ac.tmps.getD 109 undef = .bool true := valv hF hd 9 rfl rfl (by kernel_rfl)
        refine step_do ho' (wanted_so (g := 9) rfl rfl rfl fg) ?_
        unfold Oper.wp
        go_simp
        refine (wakes_is F _ (F.keep _ _ hT hF.j.2)).mono ?_
        rintro e w' ⟨rfl, hB⟩
        exact hK _ _ (.inr rfl) ((hF.j).below hB)
      · have ho' := ho
        obtain rfl := Option.some.inj ho
        have f109 : ac.tmps.getD 109 undef = .bool true := valv hF hd 9 rfl rfl (by kernel_rfl)
        have f110 : ac.tmps.getD 110 undef = .bool true := valv hF hd 10 rfl rfl (by kernel_rfl)
        refine step_do ho' (wanted_free rfl) ?_
        unfold Oper.wp
        go_simp
        exact hK _ _ (.inr rfl) hF.j
      · have ho' := ho
        obtain rfl := Option.some.inj ho
        have f111 : ac.tmps.getD 111 undef = .bool true := valv hF hd 11 rfl rfl (by kernel_rfl)
        refine step_do ho' (wanted_free rfl) ?_
        unfold Oper.wp
        go_simp
        exact hK _ _ (.inr rfl) hF.j
      · cases ho
    intro L V6 hL hKq
    have hK : Kp [(g2, B32 (bdig y2), 22), (bX, X, tX), (g3, B64 (bdig (two R S)), 24), (bA, B32 (bdig n), 22)] w V6 := hKq
    clear hKq hL
    simp only [putAll, valSp1, Act.put, List.setIfInBounds_toArray, List.set_cons_succ, List.set_cons_zero]
    go_wp2
    go_ret
    exact ⟨rfl, hK.2⟩
  · have bm : H.Bys m := hm.1.2.2.2.1
    obtain ⟨x, hx, hx2, hxr⟩ : ∃ x : Int, at_ % 256 = x ∧ IntKind.u8.wrap at_ = x ∧ (0 ≤ x ∧ x < 256) := ⟨at_ % 256, rfl, by simp [IntKind.wrap, IntKind.bits, IntKind.signed], by omega⟩
    replace hxr := show Hid _ from hxr
    go_upto_region 23 with (at_builtin; refine H.wpList_append_bytes (by rfl) (.tmp 95) (.tmp 98) (by rfl) V1.heap.size _ m (by rfl) (hO.out _ ((hK.at bX (X) tX (.head _)).alloc _)) bm _ 1 1 [x] (by rfl) (H.bytesV_one _ x hxr.out) (fun h => by cases h) (by simp; omega) (by have := hbs.out; simp; omega) ?_; intro a3 c3 w3 hO3 hg3 hV3)
    have bM : H.Bys (m ++ [x]) := fun z hz => (List.mem_append.1 hz).elim (bm z) (fun h => by obtain rfl := List.mem_singleton.1 h; exact hxr.out)
    obtain ⟨bY, Y, leY, oY, hTy⟩ := own_text hO3 (by simp) (by simp) bM
    have o_bA := own_grownO ((hK.at bA (B32 (bdig n)) 22 (.tail _ (.tail _ (.tail _ (.head _))))).alloc (.cells #[.int .u8 x] 5)) hg3 (fun gq eg => by have h1 := (H.OwnBytes.base_le (hO.out _ (hK.at bX (X) tX (.head _))) eg); have := ltH_bA.out; omega)
    have o_g2 := own_grownO ((hK.at g2 (B32 (bdig y)) 22 (.tail _ (.tail _ (.head _)))).alloc (.cells #[.int .u8 x] 5)) hg3 (fun gq eg => by have h1 := (H.OwnBytes.base_le (hO.out _ (hK.at bX (X) tX (.head _))) eg); have := ltH_g2.out; omega)
    have o_g3 := own_grownO ((hK.at g3 (B64 (bdig (two R S))) 24 (.tail _ (.head _))).alloc (.cells #[.int .u8 x] 5)) hg3 (fun gq eg => by have h1 := (H.OwnBytes.base_le (hO.out _ (hK.at bX (X) tX (.head _))) eg); have := ltH_g3.out; omega)
    have hb2 := hK.2.alloc hK.2.size (.cells #[.int .u8 x] 5)
    have hbel : Below w.heap.size w w3 := hb2.grown hg3 hb2.size (fun gq eg => Nat.le_trans hw0.out (H.OwnBytes.base_le (hO.out _ (hK.at bX (X) tX (.head _))) eg))
    replace hK : Kp [(bY, Y, 5), (g3, B64 (bdig (two R S)), 24), (g2, B32 (bdig y), 22), (bA, B32 (bdig n), 22)] w w3 := (((Kp.cons (⟨(fun _ h => by cases h), hbel⟩ : Kp [] w w3) o_bA).cons o_g2).cons o_g3).cons oY
    obtain ⟨M, HM⟩ : ∃ M, Hid (m ++ [x] = M) := ⟨_, rfl⟩
    rw [HM.out] at hTy
    replace hTy := show Hid _ from hTy
    have hML : M.length = m.length + 1 := by rw [← HM.out]; simp
    have lM : Hid (M.length ≤ 1000) := by show _ ≤ _; rw [hML]; omega
    rw [← hML]
    replace hML := show Hid _ from hML
    clear hO3 hg3 hV3 bM leY oY hb2 hbel o_bA o_g2 o_g3 hx hx2
    obtain ⟨v, Hv⟩ : ∃ v, Hid (signedB y M R S = v) := ⟨_, rfl⟩
    have hvv : (v == v) = true := beq_self_eq_true v
    have hver : Hid (∀ a c w, T w → Txt w a c M → Calls Tryd.prog 7 #[.agg (B32 (bdig y)), .slice a M.length c, .agg (B64 (bdig (two R S)))] w fun x w' => x = .returned (.bool v) ∧ Below w.heap.size w w') := fun a c w hT hm => by rw [← Hv.out]; exact verify_is F ly.out lR.out lS.out lM.out w hT hm
    have hpver : Hid (∀ a c w, Txt w a c M → Calls Tryd.prog 8 #[.agg (B32 (bdig y)), .slice a M.length c, .agg (B64 (bdig (two R S)))] w fun x w' => x = .returned (.bool v) ∧ Below w.heap.size w w') := fun a c w hm => by rw [← Hv.out]; exact pverify_is ly.out lR.out lS.out lM.out w hm
    refine wp_region_vals 112 (by kernel_rfl) (by kernel_rfl) (by rfl) (valSp2 y R S v a3 c3 M) (fun _ => Kp [(bY, Y, 5), (g3, B64 (bdig (two R S)), 24), (g2, B32 (bdig y), 22), (bA, B32 (bdig n), 22)] w) hK.drew ?_ ?_
    · intro L ac wc i o hF hLi ho hd K hK
      rcases i with _ | _ | _ | _ | _ | _ | _ | _ | _ | _ | _ | _ | _ | i
      · have ho' := ho
        obtain rfl := Option.some.inj ho
        have f9 : ac.tmps.getD 9 undef = .pointer (some ⟨g2, 0, none⟩) := slotv hF 0 hLi 9 (by kernel_rfl)
        refine step_do ho' (wanted_free rfl) ?_
        exact wp_load_own 22 (.tmp 9) rfl g2 f9 (B32 (bdig y)) _ 22 (hF.j.at g2 (B32 (bdig y)) 22 (.tail _ (.tail _ (.head _)))) Tryd.underlying22 rfl (B32_info _) (hK _ _ (.inr rfl) hF.j)
      · have ho' := ho
        obtain rfl := Option.some.inj ho
        have f11 : ac.tmps.getD 11 undef = .slice a3 M.length c3 := slotv hF 1 hLi 11 (by kernel_rfl)
        refine step_do ho' (wanted_free rfl) ?_
        unfold Oper.wp
        go_simp
        exact hK _ _ (.inr rfl) hF.j
      · have ho' := ho
        obtain rfl := Option.some.inj ho
        have f10 : ac.tmps.getD 10 undef = .pointer (some ⟨g3, 0, none⟩) := slotv hF 2 hLi 10 (by kernel_rfl)
        refine step_do ho' (wanted_free rfl) ?_
        exact wp_load_own 24 (.tmp 10) rfl g3 f10 (B64 (bdig (two R S))) _ 24 (hF.j.at g3 (B64 (bdig (two R S))) 24 (.tail _ (.head _))) Tryd.underlying24 rfl (B64_info _) (hK _ _ (.inr rfl) hF.j)
      · have ho' := ho
        obtain rfl := Option.some.inj ho
        have f100 : ac.tmps.getD 100 undef = .agg (B32 (bdig y)) := valv hF hd 0 rfl rfl (by kernel_rfl)
        have f101 : ac.tmps.getD 101 undef = .slice a3 M.length c3 := valv hF hd 1 rfl rfl (by kernel_rfl)
        have f102 : ac.tmps.getD 102 undef = .agg (B64 (bdig (two R S))) := valv hF hd 2 rfl rfl (by kernel_rfl)
        refine step_do ho' (wanted_free rfl) ?_
        unfold Oper.wp
        go_simp
        refine (hver.out _ _ _ (F.keep _ _ hT hF.j.2) (hTy.out _ (hF.j.at bY (Y) 5 (.head _)))).mono ?_
        rintro e w' ⟨rfl, hB⟩
        exact hK _ _ (.inr rfl) ((hF.j).below hB)
      · have ho' := ho
        obtain rfl := Option.some.inj ho
        have f9 : ac.tmps.getD 9 undef = .pointer (some ⟨g2, 0, none⟩) := slotv hF 4 hLi 9 (by kernel_rfl)
        refine step_do ho' (wanted_free rfl) ?_
        exact wp_load_own 22 (.tmp 9) rfl g2 f9 (B32 (bdig y)) _ 22 (hF.j.at g2 (B32 (bdig y)) 22 (.tail _ (.tail _ (.head _)))) Tryd.underlying22 rfl (B32_info _) (hK _ _ (.inr rfl) hF.j)
      · have ho' := ho
        obtain rfl := Option.some.inj ho
        have f11 : ac.tmps.getD 11 undef = .slice a3 M.length c3 := slotv hF 5 hLi 11 (by kernel_rfl)
        refine step_do ho' (wanted_free rfl) ?_
        unfold Oper.wp
        go_simp
        exact hK _ _ (.inr rfl) hF.j
      · have ho' := ho
        obtain rfl := Option.some.inj ho
        have f10 : ac.tmps.getD 10 undef = .pointer (some ⟨g3, 0, none⟩) := slotv hF 6 hLi 10 (by kernel_rfl)
        refine step_do ho' (wanted_free rfl) ?_
        exact wp_load_own 24 (.tmp 10) rfl g3 f10 (B64 (bdig (two R S))) _ 24 (hF.j.at g3 (B64 (bdig (two R S))) 24 (.tail _ (.head _))) Tryd.underlying24 rfl (B64_info _) (hK _ _ (.inr rfl) hF.j)
      · have ho' := ho
        obtain rfl := Option.some.inj ho
        have f104 : ac.tmps.getD 104 undef = .agg (B32 (bdig y)) := valv hF hd 4 rfl rfl (by kernel_rfl)
        have f105 : ac.tmps.getD 105 undef = .slice a3 M.length c3 := valv hF hd 5 rfl rfl (by kernel_rfl)
        have f106 : ac.tmps.getD 106 undef = .agg (B64 (bdig (two R S))) := valv hF hd 6 rfl rfl (by kernel_rfl)
        refine step_do ho' (wanted_free rfl) ?_
        unfold Oper.wp
        go_simp
        refine (hpver.out _ _ _ (hTy.out _ (hF.j.at bY (Y) 5 (.head _)))).mono ?_
        rintro e w' ⟨rfl, hB⟩
        exact hK _ _ (.inr rfl) ((hF.j).below hB)
      · have ho' := ho
        obtain rfl := Option.some.inj ho
        have f103 : ac.tmps.getD 103 undef = .bool v := valv hF hd 3 rfl rfl (by kernel_rfl)
        have f107 : ac.tmps.getD 107 undef = .bool v := valv hF hd 7 rfl rfl (by kernel_rfl)
        refine step_do ho' (wanted_free rfl) ?_
        unfold Oper.wp
        go_simp
        exact hK _ _ (.inr rfl) hF.j
      · have ho' := ho
        obtain rfl := Option.some.inj ho
        have f108 : ac.tmps.getD 108 undef = .bool true := valv hF hd 8 rfl rfl (by kernel_rfl)
        refine step_do ho' (wanted_free rfl) ?_
        unfold Oper.wp
        go_simp
        exact hK _ _ (.inr rfl) hF.j
      · have ho' := ho
        obtain rfl := Option.some.inj ho
        have fg : ac.tmps.getD 109 undef = .bool true := valv hF hd 9 rfl rfl (by kernel_rfl)
        refine step_do ho' (wanted_so (g := 9) rfl rfl rfl fg) ?_
        unfold Oper.wp
        go_simp
        refine (wakes_is F _ (F.keep _ _ hT hF.j.2)).mono ?_
        rintro e w' ⟨rfl, hB⟩
        exact hK _ _ (.inr rfl) ((hF.j).below hB)
      · have ho' := ho
        obtain rfl := Option.some.inj ho
        have f109 : ac.tmps.getD 109 undef = .bool true := valv hF hd 9 rfl rfl (by kernel_rfl)
        have f110 : ac.tmps.getD 110 undef = .bool true := valv hF hd 10 rfl rfl (by kernel_rfl)
        refine step_do ho' (wanted_free rfl) ?_
        unfold Oper.wp
        go_simp
        exact hK _ _ (.inr rfl) hF.j
      · have ho' := ho
        obtain rfl := Option.some.inj ho
        have f111 : ac.tmps.getD 111 undef = .bool true := valv hF hd 11 rfl rfl (by kernel_rfl)
        refine step_do ho' (wanted_free rfl) ?_
        unfold Oper.wp
        go_simp
        exact hK _ _ (.inr rfl) hF.j
      · cases ho
    intro L V5 hL hKq
    have hK : Kp [(bY, Y, 5), (g3, B64 (bdig (two R S)), 24), (g2, B32 (bdig y), 22), (bA, B32 (bdig n), 22)] w V5 := hKq
    clear hKq hL
    simp only [putAll, valSp2, Act.put, List.setIfInBounds_toArray, List.set_cons_succ, List.set_cons_zero]
    go_wp2
    go_ret
    exact ⟨rfl, hK.2⟩
  · obtain ⟨l, Hl⟩ : ∃ l, Hid (LL = l) := ⟨_, rfl⟩
    have ll : Hid (S + l < R256) := by show _ < _; rw [← Hl.out]; have := lSL.out; have := twoL; omega
    have lnl : Hid (decide (S + l < LL) = false) := by show _ = _; rw [← Hl.out]; exact decide_eq_false (by omega)
    go_wp2_with fail
    refine (L_any _).mono ?_
    rintro e V5 ⟨rfl, bw⟩
    have hK := hK.below bw
    clear bw
    rw [Hl.out]
    go_wp2_with fail
    refine (bytesOf_any l _).mono ?_
    rintro e V6 ⟨rfl, bw⟩
    have hK := hK.below bw
    clear bw
    go_upto_region 7 with (refine wpList_store_new (by rfl) 22 (.tmp 12) (.tmp 29) (by rfl) _ (B32 (bdig l)) (by rfl) (by rfl) (B32_info _) (B32_sizes _ _) (B32_one _) (by rfl) ?_)
    have lt_bX := (hK.at bX (X) tX (.head _)).lt
    have lt_g3 := (hK.at g3 (B64 (bdig (two R S))) 24 (.tail _ (.head _))).lt
    have lt_g2 := (hK.at g2 (B32 (bdig y)) 22 (.tail _ (.tail _ (.head _)))).lt
    have lt_bA := (hK.at bA (B32 (bdig n)) 22 (.tail _ (.tail _ (.tail _ (.head _))))).lt
    have le_b7 := show Hid _ from hK.2.size
    have hK := hK.alloc (B32 (bdig l)) 22
    generalize V6.alloc (.cells (B32 (bdig l)) 22) = V8 at *
    obtain ⟨b7, Hb7⟩ : ∃ b, Hid (V6.heap.size = b) := ⟨_, rfl⟩
    have ne_bX_b7 : Hid (bX ≠ b7) := by show _ ≠ _; rw [← Hb7.out]; exact Nat.ne_of_lt lt_bX
    have ne_g3_b7 : Hid (g3 ≠ b7) := by show _ ≠ _; rw [← Hb7.out]; exact Nat.ne_of_lt lt_g3
    have ne_g2_b7 : Hid (g2 ≠ b7) := by show _ ≠ _; rw [← Hb7.out]; exact Nat.ne_of_lt lt_g2
    have ne_bA_b7 : Hid (bA ≠ b7) := by show _ ≠ _; rw [← Hb7.out]; exact Nat.ne_of_lt lt_bA
    have le_b7 : Hid (w.heap.size ≤ b7) := by show _ ≤ _; rw [← Hb7.out]; exact le_b7.out
    rw [Hb7.out] at hK ⊢
    clear lt_bX lt_g3 lt_g2 lt_bA
    have hK : Kp [(g3, B64 (bdig (two R S)), 24), (b7, B32 (bdig l), 22), (bX, X, tX), (g2, B32 (bdig y), 22), (bA, B32 (bdig n), 22)] w V8 := (((((hK.none.cons (hK.at bA (B32 (bdig n)) 22 (.tail _ (.tail _ (.tail _ (.tail _ (.head _))))))).cons (hK.at g2 (B32 (bdig y)) 22 (.tail _ (.tail _ (.tail _ (.head _)))))).cons (hK.at bX (X) tX (.tail _ (.head _)))).cons (hK.at b7 (B32 (bdig l)) 22 (.head _))).cons (hK.at g3 (B64 (bdig (two R S))) 24 (.tail _ (.tail _ (.head _)))))
    go_wp2_with fail
    go_loopw [13, 14] (fun cc ii wr => ∃ (k : Nat) (g : Nat → Nat), k ≤ 32 ∧ ii = .int .i64 (k : Int) ∧ cc = .int .i64 (carryN S l k : Int) ∧ (∀ j, j < 64 → g j = if 32 ≤ j ∧ j < 32 + k then bdig (S + l) (j - 32) else bdig (two R S) j) ∧ Kp [(g3, B64 g, 24), (b7, B32 (bdig l), 22), (bX, X, tX), (g2, B32 (bdig y), 22), (bA, B32 (bdig n), 22)] w wr) (fun _ ii _ => 32 - (intOf ii).toNat)
    case atStart => exact ⟨0, bdig (two R S), by omega, rfl, by rw [carry_zero]; rfl, fun j hj => by rw [if_neg (by omega)], hK⟩
    case round =>
      clear hK
      obtain ⟨i, g, hi, rfl, rfl, hg, hK⟩ := hrel
      replace hg := show Hid _ from hg
      have hi0 : (0 : Int) ≤ (i : Int) := by omega
      by_cases hlt : i < 32
      · have hii : (i : Int) < 32 := by omega
        obtain ⟨k, Hk⟩ : ∃ k, Hid (carryN S l i = k) := ⟨_, rfl⟩
        obtain ⟨u, Hu⟩ : ∃ u, Hid (bdig S i = u) := ⟨_, rfl⟩
        obtain ⟨q, Hq⟩ : ∃ q, Hid (bdig l i = q) := ⟨_, rfl⟩
        have lk : k ≤ 1 := by rw [← Hk.out]; exact carry_le _ _ _
        have lu : u < 256 := by rw [← Hu.out]; exact bdig_lt _ _
        have lq : q < 256 := by rw [← Hq.out]; exact bdig_lt _ _
        obtain ⟨x, Hx⟩ : ∃ x, Hid (bdig (S + l) i = x) := ⟨_, rfl⟩
        obtain ⟨k2, Hk2⟩ : ∃ k2, Hid (carryN S l (i + 1) = k2) := ⟨_, rfl⟩
        have ex : Hid (((k : Int) + (u : Int) + (q : Int)) % 256 = (x : Int)) := by show _ = _; rw [← Hx.out, carry_byte, Hk.out, Hu.out, Hq.out]; omega
        have ek : Hid (((k : Int) + (u : Int) + (q : Int)) / 256 = (k2 : Int)) := by show _ = _; rw [← Hk2.out, carry_next, Hk.out, Hu.out, Hq.out]; omega
        have c1 : wr.cell? ⟨g3, 32 + i, none⟩ = some (.int .u8 (u : Int)) := by have := (hK.at g3 (B64 g) 24 (.head _)).cell (B64_at g (32 + i) (by omega)); rw [hg.out (32 + i) (by omega), if_neg (by omega), two_byte_hi lR.out, Hu.out] at this; exact this
        have d1 := (hK.at g3 (B64 g) 24 (.head _)).frozen (32 + i)
        have c2 : wr.cell? ⟨b7, i, none⟩ = some (.int .u8 (q : Int)) := by have := (hK.at b7 (B32 (bdig l)) 22 (.tail _ (.head _))).cell (B32_at (bdig l) i hlt); rw [Hq.out] at this; exact this
        have h32 : (32 : Int) + (i : Int) < 64 := by omega
        rw [Hk.out]
        have k0 : (0 : Int) ≤ (k : Int) := by omega
        have k1 : (k : Int) ≤ 1 := by omega
        have u0 : (0 : Int) ≤ (u : Int) := by omega
        have u1 : (u : Int) < 256 := by omega
        have q0 : (0 : Int) ≤ (q : Int) := by omega
        have q1 : (q : Int) < 256 := by omega
        go_upto_region 11 with fail
        go_region
        clear c1 c2 d1
        replace hK : Kp [(g3, B64 g, 24), (b7, B32 (bdig l), 22), (bX, X, tX), (g2, B32 (bdig y), 22), (bA, B32 (bdig n), 22)] w wr.drew := hK.drew
        generalize wr.drew = V8 at *
        have c1 := (hK.at g3 (B64 g) 24 (.head _)).cell (B64_at g (32 + i) (by omega))
        have d1 := (hK.at g3 (B64 g) 24 (.head _)).frozen (32 + i)
        go_upto_region 13 with fail
        rw [ex.out]
        have hK := Kp.setCell (i := 32 + i) (v := .int .u8 (x : Int)) hK (by simp only [List.forall_mem_cons, List.not_mem_nil, false_implies, implies_true, and_true]; exact ⟨(Ne.symm ne_g3_b7.out), (Ne.symm ne_g3_bX.out), ne_g2_g3.out, ne_bA_g3.out⟩) le_g3.out
        rw [B64_set g (32 + i) x (by omega)] at hK
        generalize V8.setCell ⟨g3, 32 + i, none⟩ (.int .u8 (x : Int)) = V9 at *
        clear c1 d1
        go_wp2_with fail
        go_roundw
        case rel => exact ⟨i + 1, upd g (32 + i) x, by omega, by go_num, by rw [Hk2.out, ← ek.out], add_set Hx.out hg.out, hK⟩
        case measure => simp [intOf]; omega
      · have hii : ¬ (i : Int) < 32 := by omega
        rw [add_done lR.out hlt hg.out] at hK
        clear hg
        obtain ⟨SL, HSL⟩ : ∃ SL, Hid (S + l = SL) := ⟨_, rfl⟩
        rw [HSL.out] at hK
        have lSL2 : Hid (SL < R256) := by show _ < _; rw [← HSL.out]; exact ll.out
        have hlow : Hid (decide (SL < LL) = false) := by show _ = _; rw [← HSL.out]; exact lnl.out
        go_upto_region 14 with fail
        go_wp2_with (first
          | refine wpList_load_own (by rfl) 22 (.tmp 9) (by rfl) g2 (by rfl) (B32 (bdig y)) _ (hK.at g2 (B32 (bdig y)) 22 (.tail _ (.tail _ (.tail _ (.head _))))) Tryd.underlying22 (by rfl) (B32_info _) ?_
          | refine wpList_load_own (by rfl) 24 (.tmp 10) (by rfl) g3 (by rfl) (B64 (bdig (two R SL))) _ (hK.at g3 (B64 (bdig (two R SL))) 24 (.head _)) Tryd.underlying24 (by rfl) (B64_info _) ?_)
        refine (verify_false3 F ly.out lR.out lSL2.out hl1.out (signedB_low hlow.out) _ (F.keep _ _ hT hK.2) (hTx.out _ (hK.at bX (X) tX (.tail _ (.tail _ (.head _)))))).mono ?_
        rintro e V9 ⟨rfl, bw⟩
        have hK := hK.below bw
        clear bw
        go_wp2_with fail
        refine (wakes_is F _ (F.keep _ _ hT hK.2)).mono ?_
        rintro e V10 ⟨rfl, bw⟩
        have hK := hK.below bw
        clear bw
        go_wp2
        go_ret
        exact ⟨rfl, hK.2⟩
end Go.Proofs.YtfkcphbbabaefaaDoor
