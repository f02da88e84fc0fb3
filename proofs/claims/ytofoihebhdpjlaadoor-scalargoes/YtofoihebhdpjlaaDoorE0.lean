/- What the walks of the field lean on and no function of the page is needed for: numbers in words and in bytes, their cells. -/
import Derived.Test.YtofoihebhdpjlaaDoorE2
import Derived.Test.YtofoihebhdpjlaaDoorK7
import Derived.Test.YtofoihebhdpjlaaDoorN3
import Derived.Laws.ResultCell
namespace Go.Proofs.YtofoihebhdpjlaaDoor
open Go.RowKit
theorem four_blocks (w : World) (a b c d : Array Value) (t : TypeId) : Own ((((w.alloc (.cells a t)).alloc (.cells b t)).alloc (.cells c t)).alloc (.cells d t)) w.heap.size a t ∧ Own ((((w.alloc (.cells a t)).alloc (.cells b t)).alloc (.cells c t)).alloc (.cells d t)) (w.heap.size + 1) b t ∧ Own ((((w.alloc (.cells a t)).alloc (.cells b t)).alloc (.cells c t)).alloc (.cells d t)) (w.heap.size + 1 + 1) c t ∧ Own ((((w.alloc (.cells a t)).alloc (.cells b t)).alloc (.cells c t)).alloc (.cells d t)) (w.heap.size + 1 + 1 + 1) d t ∧ Below w.heap.size w ((((w.alloc (.cells a t)).alloc (.cells b t)).alloc (.cells c t)).alloc (.cells d t)) := by
  refine ⟨(((own_new w a t).alloc _).alloc _).alloc _, ?_, ?_, ?_, ((((Below.refl _ _).alloc (Nat.le_refl _) _).alloc (by simp) _).alloc (by simp; omega) _).alloc (by simp; omega) _⟩
  · have := ((own_new (w.alloc (.cells a t)) b t).alloc (.cells c t)).alloc (.cells d t)
    rwa [World.size_alloc] at this
  · have := (own_new ((w.alloc (.cells a t)).alloc (.cells b t)) c t).alloc (.cells d t)
    rwa [World.size_alloc, World.size_alloc] at this
  · have := own_new (((w.alloc (.cells a t)).alloc (.cells b t)).alloc (.cells c t)) d t
    rwa [World.size_alloc, World.size_alloc, World.size_alloc] at this
theorem results_own_tmp {P : Program} {fn : Func} {p u : Tmp} {ty : TypeId} (h : fn.results = #[.cell p ty, .tmp u]) (tmps : Array Value) (w : World) (b : Nat) (A : Array Value) (d : TypeDesc)
    (hp : tmps.getD p undef = .pointer (some ⟨b, 0, none⟩)) {t : TypeId} (ho : Own w b A t) (hu : P.underlying ty = some d) (hd : d.isRow = true) (hi : (P.info? ty).map (·.size) = some A.size) :
    (results fn tmps).run P w = .ok (.tuple #[.agg A, tmps.getD u undef]) w := by
  have := run_loadVar_mid w b 0 ty A.toList d ho.range hu hd (by simpa using hi)
  rw [results_cell_tmp h, hp]
  simp [asAddr, this]

theorem numA_at (n i : Nat) (h : i < 4) : (numA n)[i]? = some (.int .u64 (dig n i : Int)) := A4_at _ i h
theorem numA_one (n : Nat) : (numA n).all (·.oneCell') = true := A4_one _
theorem numA_size (n : Nat) : (numA n).size = 4 := rfl
theorem zero_num : numA 0 = A4 (fun _ => 0) := rfl
theorem bor_lt {a b c d : Nat} (hd : d < R256) (hc : c ≤ 1) (h : a + R256 * c = d + b) : ((c : Int) == 1) = decide (a < b) := by
  have : c = 0 ∨ c = 1 := by omega
  rcases this with rfl | rfl
  · rw [decide_eq_false (by omega)]; rfl
  · rw [decide_eq_true (by omega)]; rfl
theorem bel {w a b : World} (h : Below w.heap.size w a) (k : Below a.heap.size a b) : Below w.heap.size w b := h.trans (k.mono h.size)
theorem alloc_below (w : World) (o : Obj) : Below w.heap.size w (w.alloc o) := (Below.refl _ _).alloc (Nat.le_refl _) _
theorem P_cells : numA pp = #[.int .u64 18446744073709551597, .int .u64 18446744073709551615, .int .u64 18446744073709551615, .int .u64 9223372036854775807] := by rfl

theorem R256_lt : R256 < 3 * pp := by decide

/-- Blocks that are kept, and one that is made, written over when the flags say so. -/
def Mk (l : List (Nat × Array Value × TypeId)) (w0 : World) (A0 A1 : Array Value) (t : TypeId) (m s : Bool) (v : Value) (w : World) : Prop :=
  Kp l w0 w ∧ (m = true → ∃ g, v = .pointer (some ⟨g, 0, none⟩) ∧ w0.heap.size ≤ g ∧ (∀ p ∈ l, p.1 ≠ g) ∧ Own w g (if s = true then A1 else A0) t)
theorem Mk.below {l : List (Nat × Array Value × TypeId)} {w0 : World} {A0 A1 : Array Value} {t : TypeId} {m s : Bool} {v : Value} {w w' : World} (h : Mk l w0 A0 A1 t m s v w) (hB : Below w.heap.size w w') : Mk l w0 A0 A1 t m s v w' :=
  ⟨h.1.below hB, fun hm => by
    obtain ⟨g, h1, h2, h3, h4⟩ := h.2 hm
    exact ⟨g, h1, h2, h3, h4.below hB h4.lt⟩⟩
theorem Mk.alloc {l : List (Nat × Array Value × TypeId)} {w0 : World} {A0 A1 : Array Value} {t : TypeId} {s : Bool} {w : World} (h : Kp l w0 w) (hs : s = false) : Mk l w0 A0 A1 t true s (.pointer (some ⟨w.heap.size, 0, none⟩)) (w.alloc (.cells A0 t)) := by
  subst hs
  refine ⟨h.below ((Below.refl _ _).alloc (Nat.le_refl _) _), fun _ => ⟨_, rfl, h.2.size, fun p hp => Nat.ne_of_lt (h.1 p hp).lt, own_new w A0 t⟩⟩
theorem Mk.at {l : List (Nat × Array Value × TypeId)} {w0 : World} {A0 A1 : Array Value} {t : TypeId} {m s : Bool} {v : Value} {w : World} {g : Nat} (h : Mk l w0 A0 A1 t m s v w) (hm : m = true) (hv : v = .pointer (some ⟨g, 0, none⟩)) (hs : s = false) : w0.heap.size ≤ g ∧ (∀ p ∈ l, p.1 ≠ g) ∧ Own w g A0 t := by
  subst hs
  obtain ⟨g', h1, h2, h3, h4⟩ := h.2 hm
  rw [hv] at h1
  simp only [Value.pointer.injEq, Option.some.injEq, Addr.mk.injEq, and_true] at h1
  subst h1
  exact ⟨h2, h3, h4⟩
theorem Mk.store {l : List (Nat × Array Value × TypeId)} {w0 : World} {A0 A1 : Array Value} {t : TypeId} {m s : Bool} {v : Value} {w : World} {g : Nat} (h : Mk l w0 A0 A1 t m s v w) (hm : m = true) (hv : v = .pointer (some ⟨g, 0, none⟩)) (hs : s = false) (hsz : A1.size = A0.size) : Mk l w0 A0 A1 t m true v (w.setCells g 0 A1.toList) := by
  obtain ⟨h2, h3, h4⟩ := h.at hm hv hs
  refine ⟨⟨fun p hp => Own.setCells_other (h3 p hp) _ _ _ (h.1.1 p hp), Below.setCells _ _ _ _ h2 h.1.2⟩, fun _ => ⟨g, hv, h2, h3, own_setCells h4 hsz⟩⟩
/-- The kept blocks with the one that was made. -/
theorem Mk.done {l : List (Nat × Array Value × TypeId)} {w0 : World} {A0 A1 : Array Value} {t : TypeId} {m s : Bool} {v : Value} {w : World} {g : Nat} (h : Mk l w0 A0 A1 t m s v w) (hm : m = true) (hv : v = .pointer (some ⟨g, 0, none⟩)) (hs : s = true) : Kp ((g, A1, t) :: l) w0 w ∧ w0.heap.size ≤ g ∧ ∀ p ∈ l, p.1 ≠ g := by
  subst hs
  obtain ⟨g', h1, h2, h3, h4⟩ := h.2 hm
  rw [hv] at h1
  simp only [Value.pointer.injEq, Option.some.injEq, Addr.mk.injEq, and_true] at h1
  subst h1
  refine ⟨⟨fun p hp => ?_, h.1.2⟩, h2, h3⟩
  rcases List.mem_cons.1 hp with rfl | hp
  · exact h4
  · exact h.1.1 p hp
theorem Mk.drew {l : List (Nat × Array Value × TypeId)} {w0 : World} {A0 A1 : Array Value} {t : TypeId} {s : Bool} {v : Value} {w : World} (h : Kp l w0 w) : Mk l w0 A0 A1 t false s v { w with drawn := w.drawn + 1 } := ⟨h.drew, fun e => by (cases e)⟩
theorem notyett {ops : Array Oper} {a0 : Act} {F : Nat → Value → Prop} {J : (Nat → Bool) → (Nat → Value) → World → Prop} {L : Nat → Bool} {vs : Nat → Value} {a : Act} {w : World} (h : Told ops a0 F J L vs a w) (i : Nat) (hi : L i = false) (k : Nat) {o : Oper} (ho : ops[k]? = some o)
    (hB : (o.after.toList.any fun e => e.on == i && Region.binds .any e) = true) : L k = false := by
  cases hk : L k with
  | false => rfl
  | true =>
    obtain ⟨ed, he, h2⟩ := List.any_eq_true.1 hB
    simp only [Bool.and_eq_true, beq_iff_eq] at h2
    have := h.closed k o ho hk ed (by simpa using he) h2.2
    rw [h2.1, hi] at this
    cases this
theorem lit4_size (a b c d : Value) (n : Nat) : (#[a, b, c, d] : Array Value).size = (numA n).size := rfl
theorem numA_sizes (m n : Nat) : (numA m).size = (numA n).size := rfl
theorem getq {a : Act} {s : Nat} {v : Value} (h : a.tmps.getD s undef = v) : a.tmps[s]?.getD undef = v := by rw [← h]; simp
theorem numA_word (n : Nat) (h : n < 18446744073709551616) : numA n = #[.int .u64 (n : Int), .int .u64 0, .int .u64 0, .int .u64 0] := by
  have e0 : dig n 0 = n := by unfold dig; rw [Nat.pow_zero, Nat.div_one, Nat.mod_eq_of_lt h]
  have e : ∀ k, 0 < k → dig n k = 0 := fun k hk => by
    unfold dig
    have : 18446744073709551616 ^ 1 ≤ 18446744073709551616 ^ k := Nat.pow_le_pow_right (by decide) hk
    rw [Nat.pow_one] at this
    rw [Nat.div_eq_of_lt (by omega), Nat.zero_mod]
  unfold numA A4
  rw [e0, e 1 (by decide), e 2 (by decide), e 3 (by decide)]
  rfl
theorem vl_congr {f g : Nat → Nat} : ∀ n, (∀ i, i < n → f i = g i) → vl f n = vl g n
  | 0, _ => rfl
  | n + 1, h => by rw [vl, vl, vl_congr n (fun i hi => h i (by omega)), h n (by omega)]
theorem fold_mod (lo hi s h : Nat) (e : lo + 38 * hi = s + R256 * h) : (s + R256 * h) % pp = (lo + R256 * hi) % pp := by
  rw [← e]
  have h1 : R256 = 38 + pp * 2 := by decide
  rw [h1, Nat.add_mul, Nat.mul_assoc, ← Nat.add_assoc, Nat.add_mul_mod_self_left]
theorem bit_dig (e i : Nat) : dig e (i / 64) / 2 ^ (i % 64) % 2 = e / 2 ^ i % 2 := by
  unfold dig
  have h1 : (18446744073709551616 : Nat) ^ (i / 64) = 2 ^ (64 * (i / 64)) := by rw [Nat.pow_mul]
  rw [h1, ← Nat.toNat_testBit, ← Nat.toNat_testBit, show (18446744073709551616 : Nat) = 2 ^ 64 from rfl, Nat.testBit_mod_two_pow, Nat.testBit_div_two_pow, decide_eq_true (Nat.mod_lt i (by decide)), Bool.true_and]
  rw [show i % 64 + 64 * (i / 64) = i by omega]
theorem and1_u64 (x : Nat) (h : x < 18446744073709551616) : bits .and .u64 (x : Int) 1 = ((x % 2 : Nat) : Int) := by
  have := u64_and_nat x 1 h (by decide)
  rw [nat_mask1] at this; exact this
theorem bit_u64 (e i : Nat) : bits .and .u64 ((dig e (i / 64) : Int) / 2 ^ (i % 64)) 1 = ((e / 2 ^ i % 2 : Nat) : Int) := by
  have h := dig_lt e (i / 64)
  have h1 : dig e (i / 64) / 2 ^ (i % 64) < 18446744073709551616 := Nat.lt_of_le_of_lt (Nat.div_le_self _ _) h
  rw [show (dig e (i / 64) : Int) / 2 ^ (i % 64) = ((dig e (i / 64) / 2 ^ (i % 64) : Nat) : Int) by push_cast; rfl, and1_u64 _ h1, bit_dig]
theorem lt_of_mod {n : Nat} : n % pp < R256 := Nat.lt_trans (Nat.mod_lt _ pp_pos) (by decide)
/-- The number of the first k bytes, and a number's byte. -/
def vb (f : Nat → Nat) : Nat → Nat
  | 0 => 0
  | k + 1 => vb f k + f k * 256 ^ k
def bdig (n k : Nat) : Nat := n / 256 ^ k % 256
theorem bdig_lt (n k : Nat) : bdig n k < 256 := Nat.mod_lt _ (by decide)
theorem vb_upd (f : Nat → Nat) (k x : Nat) : ∀ j, j ≤ k → vb (upd f k x) j = vb f j
  | 0, _ => rfl
  | j + 1, h => by rw [vb, vb, vb_upd f k x j (by omega), upd_other f k x j (by omega)]
theorem vb_lt (f : Nat → Nat) : ∀ k, (∀ i, i < k → f i < 256) → vb f k < 256 ^ k
  | 0, _ => by rw [vb]; decide
  | k + 1, h => by
    have h1 := vb_lt f k (fun i hi => h i (by omega))
    have h2 : (f k + 1) * 256 ^ k ≤ 256 * 256 ^ k := Nat.mul_le_mul_right _ (h k (by omega))
    rw [vb, Nat.pow_succ, Nat.mul_comm (256 ^ k)]
    rw [Nat.add_mul, Nat.one_mul] at h2
    omega
theorem vb_bdig (n : Nat) : ∀ k, vb (bdig n) k = n % 256 ^ k
  | 0 => by rw [Nat.pow_zero, Nat.mod_one]; rfl
  | k + 1 => by
    rw [vb, vb_bdig n k, Nat.pow_succ, Nat.mod_mul, bdig, Nat.mul_comm]
theorem vb_mod (f : Nat → Nat) : ∀ k, (∀ i, i < k → f i < 256) → ∀ j, j ≤ k → vb f k % 256 ^ j = vb f j
  | 0, _, j, hj => by
    obtain rfl : j = 0 := by omega
    rw [Nat.pow_zero, Nat.mod_one]; rfl
  | k + 1, h, j, hj => by
    rcases Nat.lt_or_ge j (k + 1) with h1 | h1
    · obtain ⟨d, hd⟩ := Nat.pow_dvd_pow 256 (show j ≤ k by omega)
      rw [vb, hd, Nat.mul_left_comm, Nat.add_mul_mod_self_left]
      exact vb_mod f k (fun i hi => h i (by omega)) j (by omega)
    · obtain rfl : j = k + 1 := by omega
      exact Nat.mod_eq_of_lt (vb_lt f (k + 1) h)
theorem bdig_vb (f : Nat → Nat) (k : Nat) (h : ∀ i, i < k → f i < 256) (i : Nat) (hi : i < k) : bdig (vb f k) i = f i := by
  have h1 := vb_mod f k h (i + 1) (by omega)
  have h2 := vb_lt f i (fun j hj => h j (by omega))
  unfold bdig
  rw [← Nat.mod_mul_right_div_self, ← Nat.pow_succ, h1, vb, Nat.add_mul_div_right _ _ (Nat.pow_pos (by decide)), Nat.div_eq_of_lt h2, Nat.zero_add]


/-- The cells of 32 bytes. -/
def B32 (f : Nat → Nat) : Array Value := ((List.range 32).map fun i => Value.int .u8 (f i : Int)).toArray
theorem B32_size (f : Nat → Nat) : (B32 f).size = 32 := by unfold B32; simp
theorem B32_at (f : Nat → Nat) (i : Nat) (h : i < 32) : (B32 f)[i]? = some (.int .u8 (f i : Int)) := by
  unfold B32; simp [h]
theorem B32_ext {f g : Nat → Nat} (h : ∀ i, i < 32 → f i = g i) : B32 f = B32 g := by
  unfold B32
  congr 1
  apply List.map_congr_left
  intro i hi
  rw [h i (List.mem_range.1 hi)]
theorem B32_set (f : Nat → Nat) (k x : Nat) (hk : k < 32) : (B32 f).setIfInBounds k (.int .u8 (x : Int)) = B32 (upd f k x) := by
  apply Array.ext_getElem?
  intro i
  by_cases hi : i < 32
  · rw [B32_at _ i hi]
    by_cases e : i = k
    · subst e
      rw [Array.getElem?_setIfInBounds_self_of_lt (by rw [B32_size]; exact hi), upd_same]
    · rw [Array.getElem?_setIfInBounds_ne (Ne.symm e), B32_at _ i hi, upd_other _ _ _ _ e]
  · rw [Array.getElem?_eq_none (by rw [Array.size_setIfInBounds, B32_size]; omega), Array.getElem?_eq_none (by rw [B32_size]; omega)]
theorem B32_one (f : Nat → Nat) : (B32 f).all (·.oneCell') = true := all_oneCell_toArray fun v hv => by
  obtain ⟨i, _, rfl⟩ := List.mem_map.1 hv
  rfl
theorem infoB32 : (Tryd.prog.info? 22).map (·.size) = some 32 := by kernel_rfl
theorem B32_info (f : Nat → Nat) : (Tryd.prog.info? 22).map (·.size) = some (B32 f).size := by rw [infoB32, B32_size]
theorem zeroB32 : (Tryd.prog.info? 22).map (fun i => (i.zero, i.size)) = some (some (.agg (B32 fun _ => 0)), 32) := by kernel_rfl
theorem w_pow (d : Nat) : (18446744073709551616 : Nat) ^ d = 256 ^ (8 * d) := by rw [Nat.pow_mul]
theorem byte_of (n k : Nat) : dig n (k / 8) / 2 ^ (8 * (k % 8)) % 256 = bdig n k := by
  unfold dig bdig
  rw [show (2 : Nat) ^ (8 * (k % 8)) = 256 ^ (k % 8) by rw [Nat.pow_mul], w_pow, show (18446744073709551616 : Nat) = 256 ^ (k % 8) * 256 ^ (8 - k % 8) by rw [← Nat.pow_add, show k % 8 + (8 - k % 8) = 8 by omega]]
  rw [Nat.mod_mul_right_div_self, Nat.div_div_eq_div_mul, ← Nat.pow_add, show 8 * (k / 8) + k % 8 = k by omega]
  have : 256 ^ (8 - k % 8) = 256 * 256 ^ (7 - k % 8) := by rw [← Nat.pow_succ', show (7 - k % 8).succ = 8 - k % 8 by omega]
  rw [this, Nat.mod_mul_right_mod]

theorem k_parts (k : Nat) : (256 : Nat) ^ k = 18446744073709551616 ^ (k / 8) * 256 ^ (k % 8) := by
  rw [w_pow, ← Nat.pow_add, show 8 * (k / 8) + k % 8 = k by omega]
theorem pow_le8 (r : Nat) (h : r < 8) : 256 * 256 ^ r ≤ 18446744073709551616 := by
  have : (256 : Nat) ^ (r + 1) ≤ 256 ^ 8 := Nat.pow_le_pow_right (by decide) (by omega)
  rw [Nat.pow_succ, Nat.mul_comm] at this
  exact this
theorem low_div {x k : Nat} (hx : x < 256 ^ k) : x / 18446744073709551616 ^ (k / 8) < 256 ^ (k % 8) := by
  rw [k_parts] at hx
  exact Nat.div_lt_of_lt_mul hx
theorem dig_low {x k : Nat} (hx : x < 256 ^ k) : dig x (k / 8) = x / 18446744073709551616 ^ (k / 8) := by
  unfold dig
  have h1 := low_div hx
  have h2 := pow_le8 (k % 8) (Nat.mod_lt _ (by decide))
  exact Nat.mod_eq_of_lt (by omega)
theorem dig_more {x k c : Nat} (hx : x < 256 ^ k) (hc : c < 256) (j : Nat) : dig (x + 256 ^ k * c) j = upd (dig x) (k / 8) (dig x (k / 8) + c * 256 ^ (k % 8)) j := by
  rcases Nat.lt_trichotomy j (k / 8) with h | h | h
  · rw [upd_other _ _ _ _ (by omega)]
    unfold dig
    have e : (18446744073709551616 : Nat) ^ (k / 8) = 18446744073709551616 ^ j * (18446744073709551616 * 18446744073709551616 ^ (k / 8 - j - 1)) := by
      rw [← Nat.pow_succ', ← Nat.pow_add]
      congr 1
      omega
    rw [k_parts, e, Nat.mul_assoc, Nat.mul_assoc, Nat.add_mul_div_left _ _ (Nat.pow_pos (by decide)), Nat.mul_assoc, Nat.add_mul_mod_self_left]
  · subst h
    rw [upd_same, dig_low hx]
    unfold dig
    rw [k_parts, Nat.mul_assoc, Nat.add_mul_div_left _ _ (Nat.pow_pos (by decide)), Nat.mul_comm (256 ^ (k % 8))]
    have h1 := low_div hx
    have h2 := pow_le8 (k % 8) (Nat.mod_lt _ (by decide))
    have h3 : c * 256 ^ (k % 8) ≤ 255 * 256 ^ (k % 8) := Nat.mul_le_mul_right _ (by omega)
    exact Nat.mod_eq_of_lt (by omega)
  · rw [upd_other _ _ _ _ (by omega)]
    have h1 : (256 : Nat) ^ (k + 1) ≤ 18446744073709551616 ^ j := by
      rw [w_pow]; exact Nat.pow_le_pow_right (by decide) (by omega)
    have h2 : 256 ^ k * c ≤ 256 ^ k * 255 := Nat.mul_le_mul_left _ (by omega)
    rw [Nat.pow_succ] at h1
    unfold dig
    rw [Nat.div_eq_of_lt (by omega), Nat.div_eq_of_lt (by omega)]
theorem or_byte {x k c : Nat} (hx : x < 256 ^ k) (hc : c < 256) : bits .or .u64 (dig x (k / 8) : Int) ((c * 256 ^ (k % 8) : Nat) : Int) = ((dig x (k / 8) + c * 256 ^ (k % 8) : Nat) : Int) := by
  have h1 := low_div hx
  have h2 := pow_le8 (k % 8) (Nat.mod_lt _ (by decide))
  have h3 : c * 256 ^ (k % 8) ≤ 255 * 256 ^ (k % 8) := Nat.mul_le_mul_right _ (by omega)
  rw [dig_low hx, u64_or_nat _ _ (by omega) (by omega), Nat.or_comm]
  have e : (256 : Nat) ^ (k % 8) = 2 ^ (8 * (k % 8)) := by rw [Nat.pow_mul]
  rw [e] at h1 ⊢
  rw [nat_join (8 * (k % 8)) _ _ (Nat.mul_mod_left _ _) h1, Nat.add_comm]
theorem shl_byte {k c : Nat} (hc : c < 256) : IntKind.u64.wrap ((c : Int) * 2 ^ (8 * (k % 8))) = ((c * 256 ^ (k % 8) : Nat) : Int) := by
  have h2 := pow_le8 (k % 8) (Nat.mod_lt _ (by decide))
  have h3 : c * 256 ^ (k % 8) ≤ 255 * 256 ^ (k % 8) := Nat.mul_le_mul_right _ (by omega)
  have e : (256 : Nat) ^ (k % 8) = 2 ^ (8 * (k % 8)) := by rw [Nat.pow_mul]
  rw [show (c : Int) * 2 ^ (8 * (k % 8)) = ((c * 256 ^ (k % 8) : Nat) : Int) by rw [e]; push_cast; rfl]
  exact wrap_small _ (by omega)
theorem mod_more (a k : Nat) : a % 256 ^ (k + 1) = a % 256 ^ k + 256 ^ k * bdig a k := by
  unfold bdig; rw [Nat.pow_succ, Nat.mod_mul]

theorem B32_sizes (f g : Nat → Nat) : (B32 f).size = (B32 g).size := by rw [B32_size, B32_size]
theorem B32_le (f g : Nat → Nat) : 0 + (B32 f).size ≤ (B32 g).size := by rw [B32_size, B32_size]; exact Nat.le_refl _
theorem vb_num (n : Nat) (h : n < R256) : vb (bdig n) 32 = n := by
  rw [vb_bdig]; exact Nat.mod_eq_of_lt h
theorem vb_congr {f g : Nat → Nat} : ∀ n, (∀ i, i < n → f i = g i) → vb f n = vb g n
  | 0, _ => rfl
  | n + 1, h => by rw [vb, vb, vb_congr n (fun i hi => h i (by omega)), h n (by omega)]
theorem B32_list (f : Nat → Nat) : B32 f = (((List.range 32).map fun i => (f i : Int)).map (Value.int .u8)).toArray := by
  unfold B32; rw [List.map_map]; rfl
/-- Two numbers' bytes held against one another. -/
theorem B32_eq (x y : Nat) (hx : x < R256) (hy : y < R256) (w : World) : (Op.equalIn 10000 22 (.agg (B32 (bdig x))) (.agg (B32 (bdig y)))).run Tryd.prog w = .ok (decide (x = y)) w := by
  have h := run_equalIn_ints (P := Tryd.prog) w 9998 22 5 32 .u8 Tryd.underlying22 Tryd.underlying5 (by kernel_rfl) ((List.range 32).map fun i => (bdig x i : Int)) ((List.range 32).map fun i => (bdig y i : Int)) (by simp) (by simp)
  rw [← B32_list, ← B32_list] at h
  have e : (((List.range 32).map fun i => (bdig x i : Int)) == ((List.range 32).map fun i => (bdig y i : Int))) = decide (x = y) := by
    by_cases hxy : x = y
    · rw [hxy, decide_eq_true rfl]; simp
    · rw [decide_eq_false hxy, beq_eq_false_iff_ne]
      intro hl
      apply hxy
      rw [← vb_num x hx, ← vb_num y hy]
      refine vb_congr 32 fun i hi => ?_
      have := List.map_inj_left.1 hl i (List.mem_range.2 hi)
      exact Int.ofNat.inj this
  rw [e] at h
  exact h
theorem B32_same (x : Nat) (hx : x < R256) (w : World) : (Op.equalIn 10000 22 (.agg (B32 (bdig x))) (.agg (B32 (bdig x)))).run Tryd.prog w = .ok true w := by
  rw [B32_eq x x hx hx w, decide_eq_true rfl]
end Go.Proofs.YtofoihebhdpjlaaDoor
