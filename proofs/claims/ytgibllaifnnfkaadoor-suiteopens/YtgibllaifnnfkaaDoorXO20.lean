/- Of the texts SG0, SG1, RS, TX, JM1, JW1: what the card of this claim reaches. -/
import Derived.Test.YtgibllaifnnfkaaDoorXO19
import Derived.Test.YtgibllaifnnfkaaDoorXO3
import Derived.Test.YtgibllaifnnfkaaDoorXO8
import Derived.Test.YtgibllaifnnfkaaDoorXO17
import Derived.Test.YtgibllaifnnfkaaDoorXO9
import Derived.Test.YtgibllaifnnfkaaDoorXO14
import Derived.Test.YtgibllaifnnfkaaDoorXO4
import Derived.WalkKit
import Derived.Laws.BitsAllLaws
import Derived.Laws.CopyOwn
import Derived.Test.YtgibllaifnnfkaaDoorRows
import Derived.WalkSpells
import Derived.WalkLawsBesides
import Derived.Deep.QuietTactic
import Derived.BigQuiet
import Derived.Deep.MidRow
namespace Go.Proofs.YtgibllaifnnfkaaDoor
open Go Go.RowKit
def by32 (n : Nat) : List Int := (List.range 32).map fun i => (bdig n i : Int)
theorem by32_length (n : Nat) : (by32 n).length = 32 := by simp [by32]
theorem by32_bys (n : Nat) : H.Bys (by32 n) := fun x hx => by
  obtain ⟨i, -, rfl⟩ := List.mem_map.1 hx
  have := bdig_lt n i
  omega
theorem by32_u8s (n : Nat) : H.u8s (by32 n) = (B32 (bdig n)).toList := by
  unfold H.u8s by32 B32
  simp
theorem digest_bys (l : List Int) : H.Bys (H.digest l) := fun x hx => by
  unfold H.digest H.sumBytes at hx
  obtain ⟨y, -, hy⟩ := List.mem_flatMap.1 hx
  exact H.be8_bys y x hy
def dn (l : List Int) : Nat := vb (fun i => ((H.digest l).getD i 0).toNat) 64
theorem digest_at (l : List Int) (i : Nat) : 0 ≤ (H.digest l).getD i 0 ∧ (H.digest l).getD i 0 < 256 := by
  by_cases hi : i < (H.digest l).length
  · have e : (H.digest l).getD i 0 = (H.digest l)[i] := by simp [List.getD, hi]
    rw [e]
    exact digest_bys l _ (List.getElem_mem hi)
  · have e : (H.digest l).getD i 0 = 0 := by simp [List.getD, hi]
    rw [e]
    decide
theorem dn_byte (l : List Int) (i : Nat) (hi : i < 64) : (bdig (dn l) i : Int) = (H.digest l).getD i 0 := by
  have hb := digest_at l i
  unfold dn
  rw [bdig_vb _ 64 (fun j _ => by have := digest_at l j; omega) i hi]
  omega
theorem dn_lt (l : List Int) : dn l < R512 := by
  have h : R512 = 256 ^ 64 := by decide
  rw [h]
  exact vb_lt _ 64 fun i _ => by have := digest_at l i; omega
theorem dig_dn (l : List Int) : H.dig l = B64 (bdig (dn l)) := by
  apply Array.ext_getElem?
  intro i
  by_cases hi : i < 64
  · rw [B64_at _ i hi, dn_byte l i hi]
    have hl := H.digest_length l
    have hi' : i < (H.digest l).length := by omega
    simp [H.dig, H.u8s, List.getD, hi']
  · rw [Array.getElem?_eq_none (by rw [H.dig_size]; omega), Array.getElem?_eq_none (by rw [B64_size]; omega)]
theorem R256_pow : R256 = 256 ^ 32 := by decide
theorem bdig_lo (z j : Nat) (hj : j < 32) : bdig (z % R256) j = bdig z j := by
  unfold bdig
  rw [R256_pow, show (256 : Nat) ^ 32 = 256 ^ j * 256 ^ (32 - j) by rw [← Nat.pow_add]; congr 1; omega, Nat.mod_mul_right_div_self]
  rw [Nat.mod_mod_of_dvd]
  exact ⟨256 ^ (32 - j - 1), by rw [← Nat.pow_succ']; congr 1; omega⟩
theorem bdig_hi (z j : Nat) : bdig (z / R256) j = bdig z (32 + j) := by
  unfold bdig
  rw [R256_pow, Nat.div_div_eq_div_mul, ← Nat.pow_add]
def two (lo hi : Nat) : Nat := lo + R256 * hi
theorem two_lo {lo hi : Nat} (h : lo < R256) : two lo hi % R256 = lo := by
  unfold two
  rw [Nat.add_mul_mod_self_left, Nat.mod_eq_of_lt h]
theorem two_hi {lo hi : Nat} (h : lo < R256) : two lo hi / R256 = hi := by
  unfold two
  rw [Nat.add_mul_div_left _ _ (by decide), Nat.div_eq_of_lt h, Nat.zero_add]
theorem two_parts (z : Nat) : two (z % R256) (z / R256) = z := Nat.mod_add_div z R256
theorem two_lt {lo hi : Nat} (h : lo < R256) (h2 : hi < R256) : two lo hi < R512 := by
  unfold two
  rw [R512_eq]
  generalize R256 = R at *
  have h3 : R * (hi + 1) ≤ R * R := Nat.mul_le_mul_left _ h2
  rw [Nat.mul_add, Nat.mul_one] at h3
  omega
theorem lo_lt (z : Nat) : z % R256 < R256 := Nat.mod_lt _ (by decide)
theorem B64_lo {w : World} {b z : Nat} {t : TypeId} (h : Own w b (B64 (bdig z)) t) : w.rangeAt b 0 (B32 (bdig (z % R256))).toList := fun j v hv => by
  rw [Array.getElem?_toList] at hv
  have hj : j < 32 := by have := (Array.getElem?_eq_some_iff.1 hv).1; rwa [B32_size] at this
  rw [B32_at _ j hj, bdig_lo z j hj] at hv
  rw [Nat.zero_add, ← hv]
  exact h.cell (B64_at _ j (by omega))
theorem B64_hi {w : World} {b z : Nat} {t : TypeId} (h : Own w b (B64 (bdig z)) t) : w.rangeAt b 32 (B32 (bdig (z / R256))).toList := fun j v hv => by
  rw [Array.getElem?_toList] at hv
  have hj : j < 32 := by have := (Array.getElem?_eq_some_iff.1 hv).1; rwa [B32_size] at this
  rw [B32_at _ j hj, bdig_hi z j] at hv
  rw [← hv]
  exact h.cell (B64_at _ (32 + j) (by omega))
theorem bytes_at {w : World} {b o c n : Nat} (hc : 32 ≤ c) (hm : c ≤ maxLen) (h : w.rangeAt b o (B32 (bdig n)).toList) : H.BytesV w (some ⟨b, o, none⟩) 32 c (by32 n) :=
  ⟨(by32_length n).symm, hc, hm, by32_bys n, fun _ => ⟨b, o, rfl, by rw [by32_u8s]; exact h⟩⟩
theorem bytes_own {w : World} {b n : Nat} {t : TypeId} (h : Own w b (B32 (bdig n)) t) : H.BytesV w (some ⟨b, 0, none⟩) 32 32 (by32 n) := bytes_at (Nat.le_refl _) (by decide) h.range
theorem B64_le (f g : Nat → Nat) : 0 + (B64 f).size ≤ (B64 g).size := by rw [B64_size, B64_size]; exact Nat.le_refl _
theorem B64_list (f : Nat → Nat) : B64 f = (((List.range 64).map fun i => (f i : Int)).map (Value.int .u8)).toArray := by
  unfold B64; rw [List.map_map]; rfl
theorem infoU8s : (Tryd.prog.info? 5).map (·.size) = some 1 := by kernel_rfl
set_option maxRecDepth 100000 in
theorem B64_eq (x y : Nat) (hx : x < R512) (hy : y < R512) (w : World) : (Op.equalIn 10000 24 (.agg (B64 (bdig x))) (.agg (B64 (bdig y)))).run Tryd.prog w = .ok (decide (x = y)) w := by
  have h := run_equalIn_ints (P := Tryd.prog) w 9998 24 5 64 .u8 Tryd.underlying24 Tryd.underlying5 infoU8s ((List.range 64).map fun i => (bdig x i : Int)) ((List.range 64).map fun i => (bdig y i : Int)) (by simp) (by simp)
  rw [B64_list, B64_list]
  rw [h]
  congr 1
  by_cases e : x = y
  · subst e; simp
  · rw [decide_eq_false e]
    refine beq_eq_false_iff_ne.2 fun he => e ?_
    rw [← vb64 hx, ← vb64 hy]
    refine vb_congr 64 fun i hi => ?_
    have := congrArg (fun l : List Int => l[i]?) he
    simp [hi] at this
    exact_mod_cast this
def Txt (w : World) (a : Option Addr) (cap : Nat) (m : List Int) : Prop := H.BytesV w a m.length cap m ∧ (a = none → cap = 0)
theorem Txt.below {w w' : World} {a : Option Addr} {cap : Nat} {m : List Int} (h : Txt w a cap m) (hB : Below w.heap.size w w') : Txt w' a cap m := ⟨h.1.below hB, h.2⟩
structure Low (T : World → Prop) : Prop where
  keep : ∀ w w', T w → Below w.heap.size w w' → T w'
  wsum : ∀ a len cap ms w, T w → H.RowsV w a len cap ms → ms.flatten.length ≤ 16000000 → Calls Tryd.prog 19 #[.slice a len cap] w fun x w' => x = .returned (.agg (B64 (bdig (dn ms.flatten)))) ∧ Below w.heap.size w w'
  swide : ∀ a, a < R512 → ∀ w, T w → Calls Tryd.prog 18 #[.agg (B64 (bdig a))] w fun x w' => x = .returned (.agg (B32 (bdig (a % LL)))) ∧ Below w.heap.size w w'
  scheck : ∀ a, a < R256 → ∀ w, T w → Calls Tryd.prog 22 #[.agg (B32 (bdig a))] w fun x w' => x = .returned (.bool (decide (a < LL))) ∧ Below w.heap.size w w'
  smuladd : ∀ a b c, a < R256 → b < R256 → c < R256 → ∀ w, T w → Calls Tryd.prog 20 #[.agg (B32 (bdig a)), .agg (B32 (bdig b)), .agg (B32 (bdig c))] w fun x w' => x = .returned (.agg (B32 (bdig ((a * b + c) % LL)))) ∧ Below w.heap.size w w'
  add : ∀ (P Q : Pt E5) w, T w → Calls Tryd.prog 24 #[.agg (B32 (bdig (enc P))), .agg (B32 (bdig (enc Q)))] w fun x w' => x = .returned (.tuple #[.agg (B32 (bdig (enc (P.add Q)))), .int .i64 0]) ∧ Below w.heap.size w w'
  add_not : ∀ a b, a < R256 → b < R256 → ((∀ P : Pt E5, enc P ≠ a) ∨ ∀ P : Pt E5, enc P ≠ b) → ∀ w, T w → Calls Tryd.prog 24 #[.agg (B32 (bdig a)), .agg (B32 (bdig b))] w fun x w' => x = .returned (.tuple #[.agg (B32 fun _ => 0), .int .i64 1]) ∧ Below w.heap.size w w'
  mul : ∀ n, n < R256 → ∀ (P : Pt E5) w, T w → Calls Tryd.prog 23 #[.agg (B32 (bdig n)), .agg (B32 (bdig (enc P)))] w fun x w' => x = .returned (.tuple #[.agg (B32 (bdig (enc (Pt.times n P)))), .int .i64 0]) ∧ Below w.heap.size w w'
  mul_not : ∀ n a, n < R256 → a < R256 → (∀ P : Pt E5, enc P ≠ a) → ∀ w, T w → Calls Tryd.prog 23 #[.agg (B32 (bdig n)), .agg (B32 (bdig a))] w fun x w' => x = .returned (.tuple #[.agg (B32 fun _ => 0), .int .i64 1]) ∧ Below w.heap.size w w'
  base : ∀ n, n < R256 → ∀ w, T w → Calls Tryd.prog 17 #[.agg (B32 (bdig n))] w fun x w' => x = .returned (.agg (B32 (bdig (enc (Pt.times n BP))))) ∧ Below w.heap.size w w'
section
variable {T : World → Prop} (F : Low T)
include F
theorem Low.wsumA {a : Option Addr} {len cap z : Nat} {ms : List (List Int)} {l : List Int} (hl : ms.flatten = l) (hz : dn l = z) (hn : l.length ≤ 16000000) (w : World) (hT : T w) (hR : H.RowsV w a len cap ms) : Calls Tryd.prog 19 #[.slice a len cap] w fun x w' => x = .returned (.agg (B64 (bdig z))) ∧ Below w.heap.size w w' := by
  subst hl; subst hz; exact F.wsum a len cap ms w hT hR hn
theorem Low.swideA {a c : Nat} (ha : a < R512) (hc : a % LL = c) (w : World) (hT : T w) : Calls Tryd.prog 18 #[.agg (B64 (bdig a))] w fun x w' => x = .returned (.agg (B32 (bdig c))) ∧ Below w.heap.size w w' := by
  subst hc; exact F.swide a ha w hT
theorem Low.smuladdA {a b c d : Nat} (ha : a < R256) (hb : b < R256) (hc : c < R256) (hd : (a * b + c) % LL = d) (w : World) (hT : T w) : Calls Tryd.prog 20 #[.agg (B32 (bdig a)), .agg (B32 (bdig b)), .agg (B32 (bdig c))] w fun x w' => x = .returned (.agg (B32 (bdig d))) ∧ Below w.heap.size w w' := by
  subst hd; exact F.smuladd a b c ha hb hc w hT
theorem Low.scheckA {a : Nat} {b : Bool} (ha : a < R256) (hb : decide (a < LL) = b) (w : World) (hT : T w) : Calls Tryd.prog 22 #[.agg (B32 (bdig a))] w fun x w' => x = .returned (.bool b) ∧ Below w.heap.size w w' := by
  subst hb; exact F.scheck a ha w hT
theorem Low.addA {P Q : Pt E5} {a b c : Nat} (ha : enc P = a) (hb : enc Q = b) (hc : enc (P.add Q) = c) (w : World) (hT : T w) : Calls Tryd.prog 24 #[.agg (B32 (bdig a)), .agg (B32 (bdig b))] w fun x w' => x = .returned (.tuple #[.agg (B32 (bdig c)), .int .i64 0]) ∧ Below w.heap.size w w' := by
  subst ha; subst hb; subst hc; exact F.add P Q w hT
theorem Low.mulA {n : Nat} {P : Pt E5} {a c : Nat} (hn : n < R256) (ha : enc P = a) (hc : enc (Pt.times n P) = c) (w : World) (hT : T w) : Calls Tryd.prog 23 #[.agg (B32 (bdig n)), .agg (B32 (bdig a))] w fun x w' => x = .returned (.tuple #[.agg (B32 (bdig c)), .int .i64 0]) ∧ Below w.heap.size w w' := by
  subst ha; subst hc; exact F.mul n hn P w hT
theorem Low.baseA {n c : Nat} (hn : n < R256) (hc : enc (Pt.times n BP) = c) (w : World) (hT : T w) : Calls Tryd.prog 17 #[.agg (B32 (bdig n))] w fun x w' => x = .returned (.agg (B32 (bdig c))) ∧ Below w.heap.size w w' := by
  subst hc; exact F.base n hn w hT
end
end Go.Proofs.YtgibllaifnnfkaaDoor
namespace Go.Proofs.YtgibllaifnnfkaaDoor
open Go Go.RowKit
theorem B64_lo2 {w : World} {b lo hi : Nat} {t : TypeId} (h : lo < R256) (ho : Own w b (B64 (bdig (two lo hi))) t) : w.rangeAt b 0 (B32 (bdig lo)).toList := by
  have := B64_lo ho
  rwa [two_lo h] at this
theorem B64_hi2 {w : World} {b lo hi : Nat} {t : TypeId} (h : lo < R256) (ho : Own w b (B64 (bdig (two lo hi))) t) : w.rangeAt b 32 (B32 (bdig hi)).toList := by
  have := B64_hi ho
  rwa [two_hi h] at this
theorem B32_len7 (f : Nat → Nat) : (Tryd.prog.info? 22).map (·.size) = some (B32 f).toList.length := by rw [infoB32, Array.length_toList, B32_size]
theorem B32_len0 (f : Nat → Nat) : (B32 f).toList.length = 32 := by rw [Array.length_toList, B32_size]
theorem B32_ones (f : Nat → Nat) : ∀ v ∈ (B32 f).toList, v.oneCell' = true := fun v hv => by
  unfold B32 at hv
  obtain ⟨i, -, rfl⟩ := List.mem_map.1 hv
  rfl
theorem rows1 {w : World} {a : Option Addr} {n c : Nat} {m : List Int} (h : H.BytesV w a n c m) (hc : a = none → c = 0) : H.RowsV (w.alloc (.cells #[.slice a n c] 23)) (some ⟨w.heap.size, 0, none⟩) 1 1 [m] := by
  have e := h.1
  subst e
  exact H.rowsV_new w [(a, c, m)] (fun p hp => by
    obtain rfl := List.mem_singleton.1 hp
    exact ⟨h, hc⟩) (show 1 ≤ maxLen by decide)
theorem rows2 {w : World} {a a2 : Option Addr} {n c n2 c2 : Nat} {m m2 : List Int} (h : H.BytesV w a n c m) (hc : a = none → c = 0) (h2 : H.BytesV w a2 n2 c2 m2) (hc2 : a2 = none → c2 = 0) : H.RowsV (w.alloc (.cells #[.slice a n c, .slice a2 n2 c2] 23)) (some ⟨w.heap.size, 0, none⟩) 2 2 [m, m2] := by
  have e := h.1
  subst e
  have e := h2.1
  subst e
  exact H.rowsV_new w [(a, c, m), (a2, c2, m2)] (fun p hp => by
    simp only [List.mem_cons, List.not_mem_nil, or_false] at hp
    rcases hp with rfl | rfl
    · exact ⟨h, hc⟩
    · exact ⟨h2, hc2⟩) (show 2 ≤ maxLen by decide)
theorem rows3 {w : World} {a a2 a3 : Option Addr} {n c n2 c2 n3 c3 : Nat} {m m2 m3 : List Int} (h : H.BytesV w a n c m) (hc : a = none → c = 0) (h2 : H.BytesV w a2 n2 c2 m2) (hc2 : a2 = none → c2 = 0) (h3 : H.BytesV w a3 n3 c3 m3) (hc3 : a3 = none → c3 = 0) : H.RowsV (w.alloc (.cells #[.slice a n c, .slice a2 n2 c2, .slice a3 n3 c3] 23)) (some ⟨w.heap.size, 0, none⟩) 3 3 [m, m2, m3] := by
  have e := h.1
  subst e
  have e := h2.1
  subst e
  have e := h3.1
  subst e
  exact H.rowsV_new w [(a, c, m), (a2, c2, m2), (a3, c3, m3)] (fun p hp => by
    simp only [List.mem_cons, List.not_mem_nil, or_false] at hp
    rcases hp with rfl | rfl | rfl
    · exact ⟨h, hc⟩
    · exact ⟨h2, hc2⟩
    · exact ⟨h3, hc3⟩) (show 3 ≤ maxLen by decide)
theorem rows_bel {w w' : World} {v : Value} {n : Nat} {ms : List (List Int)} (h : ∃ aq, v = .slice aq n n ∧ H.RowsV w aq n n ms) (hB : Below w.heap.size w w') : ∃ aq, v = .slice aq n n ∧ H.RowsV w' aq n n ms := by
  obtain ⟨aq, e, hr⟩ := h
  exact ⟨aq, e, hr.below hB⟩
theorem dept {ops : Array Oper} {a0 : Act} {F : Nat → Value → Prop} {J : (Nat → Bool) → (Nat → Value) → World → Prop} {L : Nat → Bool} {vs : Nat → Value} {a : Act} {w : World} (h : Told ops a0 F J L vs a w) (k : Nat) {o : Oper} (ho : ops[k]? = some o) (hk : L k = true) (j : Nat)
    (hB : (o.after.toList.any fun e => e.on == j && Region.binds .any e) = true) : L j = true := dep (fun e he hb => h.closed k o ho hk e he hb) j hB
theorem wpList_alloc7 {P : Program} {ops : Array Oper} {rest : List Oper} {op : Oper} {a : Act} {w : World} {Q : Exit → Act → World → Prop} (hgd : op.guard = none) (t : TypeId) (ho : op.op = .alloc t) {Z : Array Value} (hz : ∀ w, (zeroValue t).run P w = .ok (.agg Z) w)
    (h : wpList P ops Q rest (a.put op.dst (.pointer (some ⟨w.heap.size, 0, none⟩))) (w.alloc (.cells Z t))) : wpList P ops Q (op :: rest) a w :=
  wpList_plain hgd fun _ hK => by
    unfold Oper.wp
    simp only [execOp, ho]
    go_simp
    exact hK _ _ h
theorem wpList_news2 {P : Program} {ops : Array Oper} {rest : List Oper} {op1 op2 op3 op4 : Oper} {a : Act} {w : World} {Q : Exit → Act → World → Prop} {l : List (Nat × Array Value × TypeId)} {w0 : World} (hK : Kp l w0 w) (t1 t2 : TypeId) (p1 p2 x1 x2 : Nat) {A1 A2 Z1 Z2 : Array Value}
    (h1 : op1.guard = none) (o1 : op1.op = .alloc t1) (d1 : op1.dst = some p1) (h2 : op2.guard = none) (o2 : op2.op = .alloc t2) (d2 : op2.dst = some p2) (h3 : op3.guard = none) (o3 : op3.op = .store t1 (.tmp p1) (.tmp x1)) (d3 : op3.dst = none) (h4 : op4.guard = none) (o4 : op4.op = .store t2 (.tmp p2) (.tmp x2)) (d4 : op4.dst = none)
    (z1 : ∀ w, (zeroValue t1).run P w = .ok (.agg Z1) w) (z2 : ∀ w, (zeroValue t2).run P w = .ok (.agg Z2) w) (l1 : p1 < a.tmps.size) (l2 : p2 < a.tmps.size) (hne : p2 ≠ p1) (n1 : p1 ≠ x1) (n2 : p2 ≠ x1) (n3 : p1 ≠ x2) (n4 : p2 ≠ x2) (hx1 : a.tmps.getD x1 undef = .agg A1) (hx2 : a.tmps.getD x2 undef = .agg A2)
    (s1 : A1.size = Z1.size) (s2 : A2.size = Z2.size) (i1 : (P.info? t1).map (·.size) = some A1.size) (i2 : (P.info? t2).map (·.size) = some A2.size) (c1 : A1.all (·.oneCell') = true) (c2 : A2.all (·.oneCell') = true)
    (h : ∀ g1 g2 w', w0.heap.size ≤ g1 → w0.heap.size ≤ g2 → g1 ≠ g2 → (∀ p ∈ l, p.1 ≠ g1) → (∀ p ∈ l, p.1 ≠ g2) → Kp ((g2, A2, t2) :: (g1, A1, t1) :: l) w0 w' → wpList P ops Q rest ((a.put (some p1) (.pointer (some ⟨g1, 0, none⟩))).put (some p2) (.pointer (some ⟨g2, 0, none⟩))) w') :
    wpList P ops Q (op1 :: op2 :: op3 :: op4 :: rest) a w := by
  have hlt := fun p (hp : p ∈ l) => (hK.1 p hp).lt
  have k2 := (hK.alloc Z1 t1).alloc Z2 t2
  refine wpList_alloc7 h1 t1 o1 z1 (wpList_alloc7 h2 t2 o2 z2 ?_)
  rw [World.size_alloc] at k2 ⊢
  rw [d1, d2]
  have hw := hK.2.size
  generalize (w.alloc (.cells Z1 t1)).alloc (.cells Z2 t2) = W at *
  generalize w.heap.size = g at *
  have e1 : ((a.put (some p1) (.pointer (some ⟨g, 0, none⟩))).put (some p2) (.pointer (some ⟨g + 1, 0, none⟩))).tmps.getD p1 undef = .pointer (some ⟨g, 0, none⟩) := by rw [getD_put_other _ _ _ _ hne, getD_put_same _ _ _ l1]
  have e2 : ((a.put (some p1) (.pointer (some ⟨g, 0, none⟩))).put (some p2) (.pointer (some ⟨g + 1, 0, none⟩))).tmps.getD p2 undef = .pointer (some ⟨g + 1, 0, none⟩) := getD_put_same _ _ _ (by rw [size_put]; exact l2)
  have e3 : ((a.put (some p1) (.pointer (some ⟨g, 0, none⟩))).put (some p2) (.pointer (some ⟨g + 1, 0, none⟩))).tmps.getD x1 undef = .agg A1 := by rw [getD_put_other _ _ _ _ n2, getD_put_other _ _ _ _ n1, hx1]
  have e4 : ((a.put (some p1) (.pointer (some ⟨g, 0, none⟩))).put (some p2) (.pointer (some ⟨g + 1, 0, none⟩))).tmps.getD x2 undef = .agg A2 := by rw [getD_put_other _ _ _ _ n4, getD_put_other _ _ _ _ n3, hx2]
  have h' := h g (g + 1)
  generalize (a.put (some p1) (.pointer (some ⟨g, 0, none⟩))).put (some p2) (.pointer (some ⟨g + 1, 0, none⟩)) = b at *
  have k3 : Kp ((g, Z1, t1) :: (g + 1, Z2, t2) :: l) w0 W := ⟨fun p hp => k2.1 p (by simp only [List.mem_cons] at hp ⊢; rcases hp with h | h | h <;> simp [h]), k2.2⟩
  have k4 := Kp.set (A' := A1) k3 (fun p hp => by
    rcases List.mem_cons.1 hp with rfl | hp
    · exact Nat.succ_ne_self g
    · exact Nat.ne_of_lt (hlt p hp)) hw s1
  have k5 : Kp ((g + 1, Z2, t2) :: (g, A1, t1) :: l) w0 (W.setCells g 0 A1.toList) := ⟨fun p hp => k4.1 p (by simp only [List.mem_cons] at hp ⊢; rcases hp with h | h | h <;> simp [h]), k4.2⟩
  have k6 := Kp.set (A' := A2) k5 (fun p hp => by
    rcases List.mem_cons.1 hp with rfl | hp
    · exact Nat.ne_of_lt (Nat.lt_succ_self g)
    · exact Nat.ne_of_lt (Nat.lt_succ_of_lt (hlt p hp))) (Nat.le_succ_of_le hw) s2
  refine wpList_plain h3 fun _ hq => wp_store_own t1 (.tmp p1) (.tmp x1) o3 g A1 e1 e3 (k3.at g Z1 t1 (.head _)) s1 i1 c1 d3 ?_
  have hq' := hq b (W.setCells g 0 A1.toList)
  refine hq' ?_
  refine wpList_plain h4 fun _ hr => wp_store_own t2 (.tmp p2) (.tmp x2) o4 (g + 1) A2 e2 e4 (k5.at (g + 1) Z2 t2 (.head _)) s2 i2 c2 d4 ?_
  exact hr b _ (h' _ hw (Nat.le_succ_of_le hw) (Nat.ne_of_lt (Nat.lt_succ_self g)) (fun p hp => Nat.ne_of_lt (hlt p hp)) (fun p hp => Nat.ne_of_lt (Nat.lt_succ_of_lt (hlt p hp))) k6)
theorem wp_copy_at {P : Program} {o : Oper} {a : Act} {w : World} {K : Act → World → Prop} {Q : Exit → Act → World → Prop} (d s : Operand) (dT sT : TypeId)
    (ho : o.op = .call { callee := .builtin .copy, args := #[d, s], argTypes := #[dT, sT] }) (elem : TypeId) (hu : P.underlying dT = some (.slice elem)) (hsz : (P.info? elem).map (·.size) = some 1)
    (g og dLen dCap b ob sLen sCap : Nat) (hd : a.eval d = .slice (some ⟨g, og, none⟩) dLen dCap) (hs : a.eval s = .slice (some ⟨b, ob, none⟩) sLen sCap)
    {A : Array Value} {t : TypeId} (hg : Own w g A t) (cs : List Value) (hS : w.rangeAt b ob cs) (hn : cs.length = Nat.min sLen dLen) (hfit : og + cs.length ≤ A.size) (h1 : ∀ v ∈ cs, v.oneCell' = true)
    (h : K (a.put o.dst (goInt cs.length)) (w.setRow g (A.toList.take og ++ cs ++ A.toList.drop (og + cs.length)).toArray)) : o.wp P a w K Q := by
  have hrun := run_copy_row (P := P) w dT sT o.type elem g og dLen dCap ⟨b, ob, none⟩ sLen sCap A t cs hu hsz hg hn (fun j v hv => by rw [Addr.add_mid]; exact hS j v hv) hfit h1
  unfold Oper.wp
  simp only [List.append_assoc] at h hrun
  simp [execOp, ho, resolve, invoke, builtin, hd, hs, hrun, Result.andThen]
  exact h
theorem toList_at (f : Nat → Nat) (j : Nat) (hj : j < 64) : (B64 f).toList[j]? = some (.int .u8 (f j : Int)) := by
  rw [Array.getElem?_toList]; exact B64_at f j hj
theorem toList_at32 (f : Nat → Nat) (j : Nat) (hj : j < 32) : (B32 f).toList[j]? = some (.int .u8 (f j : Int)) := by
  rw [Array.getElem?_toList]; exact B32_at f j hj
theorem two_byte_lo {x y i : Nat} (hx : x < R256) (hi : i < 32) : bdig (two x y) i = bdig x i := by
  rw [← bdig_lo _ i hi, two_lo hx]
theorem two_byte_hi {x y i : Nat} (hx : x < R256) : bdig (two x y) (32 + i) = bdig y i := by
  rw [← bdig_hi, two_hi hx]
theorem bdig_zero (i : Nat) : bdig 0 i = 0 := by unfold bdig; rw [Nat.zero_div]
theorem join_lo {x : Nat} (hx : x < R256) : ((B64 fun _ => 0).toList.take 0 ++ (B32 (bdig x)).toList ++ (B64 fun _ => 0).toList.drop (0 + (B32 (bdig x)).toList.length)).toArray = B64 (bdig (two x 0)) := by
  apply Array.ext_getElem?
  intro i
  rw [B32_len0, List.take_zero, List.nil_append, Nat.zero_add, List.getElem?_toArray]
  by_cases hi : i < 64
  · rw [B64_at _ i hi]
    by_cases h : i < 32
    · rw [List.getElem?_append_left (by rw [B32_len0]; exact h), toList_at32 _ i h, two_byte_lo hx h]
    · obtain ⟨j, rfl⟩ : ∃ j, i = 32 + j := ⟨i - 32, by omega⟩
      rw [List.getElem?_append_right (by rw [B32_len0]; omega), B32_len0, List.getElem?_drop, toList_at _ _ (by omega), two_byte_hi hx, bdig_zero]
  · rw [List.getElem?_eq_none (by rw [List.length_append, List.length_drop, B32_len0, Array.length_toList, B64_size]; omega), Array.getElem?_eq_none (by rw [B64_size]; omega)]
theorem join_hi {x : Nat} (hx : x < R256) (y : Nat) : ((B64 (bdig (two x 0))).toList.take 32 ++ (B32 (bdig y)).toList ++ (B64 (bdig (two x 0))).toList.drop (32 + (B32 (bdig y)).toList.length)).toArray = B64 (bdig (two x y)) := by
  apply Array.ext_getElem?
  intro i
  have hl : ((B64 (bdig (two x 0))).toList.take 32).length = 32 := by rw [List.length_take, Array.length_toList, B64_size]; rfl
  rw [B32_len0, List.getElem?_toArray]
  by_cases hi : i < 64
  · rw [B64_at _ i hi, List.getElem?_append_left (by rw [List.length_append, hl, B32_len0]; omega)]
    by_cases h : i < 32
    · rw [List.getElem?_append_left (by rw [hl]; exact h), List.getElem?_take, if_pos h, toList_at _ i hi, two_byte_lo hx h, two_byte_lo hx h]
    · obtain ⟨j, rfl⟩ : ∃ j, i = 32 + j := ⟨i - 32, by omega⟩
      rw [List.getElem?_append_right (by rw [hl]; omega), hl, Nat.add_sub_cancel_left, toList_at32 _ j (by omega), two_byte_hi hx]
  · rw [List.getElem?_eq_none (by rw [List.length_append, List.length_append, List.length_drop, hl, B32_len0, Array.length_toList, B64_size]; omega), Array.getElem?_eq_none (by rw [B64_size]; omega)]
def clamp (a : Nat) : Nat := vb (upd (upd (bdig a) 0 (bdig a 0 / 8 * 8)) 31 (bdig a 31 % 64 + 64)) 32
theorem clamp_bytes (a i : Nat) (hi : i < 32) : bdig (clamp a) i = upd (upd (bdig a) 0 (bdig a 0 / 8 * 8)) 31 (bdig a 31 % 64 + 64) i := by
  unfold clamp
  refine bdig_vb _ 32 (fun j _ => ?_) i hi
  by_cases h : j = 31
  · subst h; rw [upd_same]; omega
  · rw [upd_other _ _ _ _ h]
    by_cases h0 : j = 0
    · subst h0; rw [upd_same]; have := bdig_lt a 0; omega
    · rw [upd_other _ _ _ _ h0]; exact bdig_lt a j
theorem clamp_lt (a : Nat) : clamp a < R256 := by
  rw [R256_pow]
  unfold clamp
  refine vb_lt _ 32 fun j _ => ?_
  by_cases h : j = 31
  · subst h; rw [upd_same]; omega
  · rw [upd_other _ _ _ _ h]
    by_cases h0 : j = 0
    · subst h0; rw [upd_same]; have := bdig_lt a 0; omega
    · rw [upd_other _ _ _ _ h0]; exact bdig_lt a j
theorem B32_clamp (a : Nat) : B32 (upd (upd (bdig a) 0 (bdig a 0 / 8 * 8)) 31 (bdig a 31 % 64 + 64)) = B32 (bdig (clamp a)) := B32_ext fun i hi => (clamp_bytes a i hi).symm
theorem low_bits : ∀ x : Fin 256, bits .andNot .u8 (x.val : Int) 7 = ((x.val / 8 * 8 : Nat) : Int) := by decide +kernel
theorem top_off : ∀ x : Fin 256, bits .andNot .u8 (x.val : Int) 128 = ((x.val % 128 : Nat) : Int) := by decide +kernel
theorem top_on : ∀ x : Fin 128, bits .or .u8 (x.val : Int) 64 = ((x.val % 64 + 64 : Nat) : Int) := by decide +kernel
end Go.Proofs.YtgibllaifnnfkaaDoor
namespace Go.Proofs.YtgibllaifnnfkaaDoor
open Go Go.ChangeShapes Go.WideShapes Go.ChangeAt Go.RowKit
def TS (w : World) : Prop := TC w ∧ TO w ∧ H.Tabs w
theorem low : Low TS where
  keep := fun _ _ h hB => ⟨h.1.keep hB, h.2.1.keep hB, h.2.2.below hB⟩
  wsum := fun a len cap ms w hT hR hn => by rw [← dig_dn]; exact H.sum_any a len cap ms w hR hT.2.2 hn
  swide := fun a ha w hT => swide_fn a ha w hT.2.1
  scheck := fun a ha w hT => scheck_any a ha w hT.2.1
  smuladd := fun a b c ha hb hc w hT => smuladd_any a b c ha hb hc w hT.2.1
  add := fun P Q w hT => crv.add P Q w hT.1
  add_not := fun a b ha hb h w hT => crv.add_not a b ha hb h w hT.1
  mul := fun n hn P w hT => crv.mul n hn P w hT.1
  mul_not := fun n a hn ha h w hT => crv.mul_not n a hn ha h w hT.1
  base := fun n hn w hT => crv.base n hn w hT.1
theorem cellsSN : Tryd.prog.cellsOf 62 = 4 := by kernel_rfl
theorem num_listedS {W : World} {name : String} {a b c d : Int} {rest : List (String × DataW Unit)} {g : Nat} (hg : Tryd.prog.globalNamed name = some g) (hty : (Tryd.prog.globals[g]?).map (·.type) = some 62)
    (h : laidMet Tryd.prog ((name, .agg [.lit (.int .u64 a), .lit (.int .u64 b), .lit (.int .u64 c), .lit (.int .u64 d)]) :: rest) W) :
    W.var? Tryd.prog name = some #[.int .u64 a, .int .u64 b, .int .u64 c, .int .u64 d] := by
  obtain ⟨ps, ⟨g', t', cs, fuel, p, q, hg', ht', hvar, hd, _, _⟩, _⟩ := h
  obtain rfl := Option.some.inj (hg.symm.trans hg')
  obtain rfl := Option.some.inj (hty.symm.trans ht')
  obtain ⟨xs, n, -, hx, hl, hxl, hf⟩ := DataW.trod_array Tryd.underlying62 hd
  rw [cellsSN] at hl
  obtain ⟨c0, c1, c2, c3, e⟩ := list4 hl
  obtain ⟨x0, x1, x2, x3, rfl⟩ := list4 hxl
  rw [e, cellsU64] at hf
  have h0 := hf 0 (by decide)
  have h1 := hf 1 (by decide)
  have h2 := hf 2 (by decide)
  have h3 := hf 3 (by decide)
  obtain ⟨n0, hn0, rfl, -⟩ := DataW.trod_int Tryd.underlying57 h0
  obtain ⟨n1, hn1, rfl, -⟩ := DataW.trod_int Tryd.underlying57 h1
  obtain ⟨n2, hn2, rfl, -⟩ := DataW.trod_int Tryd.underlying57 h2
  obtain ⟨n3, hn3, rfl, -⟩ := DataW.trod_int Tryd.underlying57 h3
  simp at hx hn0 hn1 hn2 hn3
  obtain ⟨⟨rfl, rfl, rfl, rfl⟩, -⟩ := hx
  rw [hvar]
  have : cs = cs.toList.toArray := rfl
  rw [this, e, hn0, hn1, hn2, hn3]
theorem gOrder : Tryd.prog.globalNamed "codicil/scalar.order" = some 6 := by kernel_rfl
theorem gOrderType : (Tryd.prog.globals[6]?).map (·.type) = some 62 := by kernel_rfl
theorem to_of {W : World} {rest : List (String × DataW Unit)} (h : laidMet Tryd.prog (("codicil/scalar.order", Rows.laid_codicil_scalar_order) :: rest) W) : TO W := by
  have hv := num_listedS gOrder gOrderType h
  have c := World.var?_cell gOrder hv
  have c0 := c 0
  have c1 := c 1
  have c2 := c 2
  have c3 := c 3
  refine ⟨World.block_lt_of_cell? W _ c0, fun k hk => ?_⟩
  rcases k with _ | _ | _ | _ | k
  · exact c0
  · exact c1
  · exact c2
  · exact c3
  · omega
theorem gStart : Tryd.prog.globalNamed "codicil/wide.start" = some 1 := by kernel_rfl
theorem gStartType : (Tryd.prog.globals[1]?).map (·.type) = some 58 := by kernel_rfl
theorem gRounds : Tryd.prog.globalNamed "codicil/wide.rounds" = some 7 := by kernel_rfl
theorem gRoundsType : (Tryd.prog.globals[7]?).map (·.type) = some 102 := by kernel_rfl
theorem cellsA8 : Tryd.prog.cellsOf 58 = 8 := by kernel_rfl
theorem cellsW80 : Tryd.prog.cellsOf 102 = 80 := by kernel_rfl
theorem start_data : (Rows.laid_codicil_wide_start : DataW Unit) = Lib.tabData .u64 (H.stWords H.start) := rfl
theorem rounds_data : (Rows.laid_codicil_wide_rounds : DataW Unit) = Lib.tabData .u64 H.kays := rfl
theorem tabs_of {W : World} (h0 : laidMet Tryd.prog [("codicil/wide.start", Rows.laid_codicil_wide_start)] W) (h1 : laidMet Tryd.prog [("codicil/wide.rounds", Rows.laid_codicil_wide_rounds)] W) : H.Tabs W := by
  have t0 : Lib.TabIs Tryd.prog W "codicil/wide.start" .u64 (H.stWords H.start) := by
    refine Lib.tabIs_of_head (rest := []) gStart gStartType Tryd.underlying58 Tryd.underlying57 cellsU64 cellsA8 ?_
    rw [← start_data]; exact h0
  have t1 : Lib.TabIs Tryd.prog W "codicil/wide.rounds" .u64 H.kays := by
    refine Lib.tabIs_of_head (rest := []) gRounds gRoundsType Tryd.underlying102 Tryd.underlying57 cellsU64 cellsW80 ?_
    rw [← rounds_data]; exact h1
  have c0 := fun i hi => t0.cell gStart i hi
  have c1 := fun i hi => t1.cell gRounds i hi
  refine ⟨⟨?_, fun i hi => c1 i hi⟩, ?_, ?_⟩
  · exact World.block_lt_of_cell? W _ (c1 0 (by decide))
  · exact World.block_lt_of_cell? W _ (c0 0 (by decide))
  · intro j v hv
    have hj : j < 8 := by
      have := (List.getElem?_eq_some_iff.1 hv).1
      simpa [H.stArr] using this
    rw [Nat.zero_add, c0 j hj, ← hv]
    rcases j with _ | _ | _ | _ | _ | _ | _ | _ | j
    all_goals first | rfl | omega
theorem ts_of {W : World} (h : laidMet Tryd.prog [("codicil/field.prime", Rows.laid_codicil_field_prime), ("codicil/field.turn", Rows.laid_codicil_field_turn), ("codicil/curve.nought", Rows.laid_codicil_curve_nought), ("codicil/curve.base", Rows.laid_codicil_curve_base), ("codicil/curve.d", Rows.laid_codicil_curve_d), ("codicil/wide.start", Rows.laid_codicil_wide_start), ("codicil/wide.rounds", Rows.laid_codicil_wide_rounds), ("codicil/scalar.order", Rows.laid_codicil_scalar_order)] W) : TS W := by
  have h1 : laidMet Tryd.prog [("codicil/field.prime", Rows.laid_codicil_field_prime), ("codicil/field.turn", Rows.laid_codicil_field_turn), ("codicil/curve.nought", Rows.laid_codicil_curve_nought), ("codicil/curve.base", Rows.laid_codicil_curve_base), ("codicil/curve.d", Rows.laid_codicil_curve_d)] W := laidMet.filter (fun p => p.1 == "codicil/field.prime" || p.1 == "codicil/field.turn" || p.1 == "codicil/curve.nought" || p.1 == "codicil/curve.base" || p.1 == "codicil/curve.d") h
  have h2 : laidMet Tryd.prog [("codicil/scalar.order", Rows.laid_codicil_scalar_order)] W := laidMet.filter (fun p => p.1 == "codicil/scalar.order") h
  have h3 : laidMet Tryd.prog [("codicil/wide.start", Rows.laid_codicil_wide_start)] W := laidMet.filter (fun p => p.1 == "codicil/wide.start") h
  have h4 : laidMet Tryd.prog [("codicil/wide.rounds", Rows.laid_codicil_wide_rounds)] W := laidMet.filter (fun p => p.1 == "codicil/wide.rounds") h
  exact ⟨tc_of h1, to_of h2, tabs_of h3 h4⟩
def IsRow (k : IntKind) (w : World) (a : Option Addr) (len cap : Nat) (zs : List Int) : Prop :=
  (a = none ∧ len = 0 ∧ cap = 0 ∧ zs = []) ∨
  ∃ x, a = some x ∧ len ≤ cap ∧ cap ≤ maxLen ∧ zs.length = cap ∧ (∀ i, i < zs.length → w.cell? (x.add i) = some (.int k (zs.getD i 0))) ∧ ∀ n ∈ zs, (Lit.int k n).wf = true
theorem wf_u8 {n : Int} (h : (Lit.int .u8 n).wf = true) : 0 ≤ n ∧ n < 256 := by
  have := bounds_u8 h; omega
theorem bytesV_of_row {w : World} {a : Option Addr} {len cap : Nat} {zs : List Int} (h : IsRow .u8 w a len cap zs) : H.BytesV w a len cap (zs.take len) := by
  rcases h with ⟨rfl, rfl, rfl, rfl⟩ | ⟨x, rfl, hl, hm, hz, hcell, hwz⟩
  · exact ⟨rfl, Nat.le_refl _, by decide, fun x hx => by simp at hx, fun hp => absurd hp (by decide)⟩
  · refine ⟨by simp; omega, hl, hm, fun x hx => wf_u8 (hwz x (List.mem_of_mem_take hx)), fun hp => ?_⟩
    obtain ⟨b, off, spot⟩ := x
    have hc := hcell 0 (by omega)
    have hspot : spot = none := by simpa [Addr.add] using World.cell?_spot hc
    subst hspot
    refine ⟨b, off, rfl, fun j v hv => ?_⟩
    have hj : j < len := by
      have := (List.getElem?_eq_some_iff.1 hv).1
      simp [H.u8s] at this; omega
    have h1 := hcell j (by omega)
    rw [Addr.add_mid] at h1
    rw [h1, ← hv]
    have hjz : j < zs.length := by omega
    simp [H.u8s, hj, hjz, List.getD]
theorem nil_of_row {w : World} {a : Option Addr} {len cap : Nat} {zs : List Int} (h : IsRow .u8 w a len cap zs) : a = none → cap = 0 := fun e => by
  rcases h with ⟨_, _, h, _⟩ | ⟨x, rfl, _⟩
  · exact h
  · cases e
theorem isRow_of {H : Type} {enc : TypeId × Value → H} {W : World} {base : Nat} {held : Bool} {a : Option Addr} {len cap : Nat} {d : DataW H} {p : List MemPlace}
    (h : DataW.Trod enc Tryd.prog W base (fun _ => true) held 23 (Value.slice a len cap) d p) : ∃ zs, IsRow .u8 W a len cap zs := by
  obtain ⟨fuel, hf⟩ := h
  rcases open_ints Tryd.underlying23 Tryd.underlying5 (by kernel_rfl) hf with ⟨hcs, _⟩ | ⟨x, l, c, zs, hcs, _, hl, hm, hz, _, hcell, hwz⟩
  · simp [Value.cells] at hcs
    obtain ⟨rfl, rfl, rfl⟩ := hcs
    exact ⟨[], .inl ⟨rfl, rfl, rfl, rfl⟩⟩
  · simp [Value.cells] at hcs
    obtain ⟨rfl, rfl, rfl⟩ := hcs
    exact ⟨zs, .inr ⟨_, rfl, hl, hm, by simpa using hz, hcell, hwz⟩⟩
theorem txt_of_row {w : World} {a : Option Addr} {len cap : Nat} {zs : List Int} (h : IsRow .u8 w a len cap zs) : len = (zs.take len).length ∧ Txt w a cap (zs.take len) := by
  have hv := bytesV_of_row h
  have e := hv.1
  exact ⟨e, by rw [← e]; exact hv, nil_of_row h⟩
end Go.Proofs.YtgibllaifnnfkaaDoor
namespace Go.Proofs.YtgibllaifnnfkaaDoor
open Go Go.RowKit
def Tx (w : World) (v : Value) (m : List Int) : Prop := ∃ a c, v = .slice a m.length c ∧ Txt w a c m
theorem Tx.below {w w' : World} {v : Value} {m : List Int} (h : Tx w v m) (hB : Below w.heap.size w w') : Tx w' v m := by
  obtain ⟨a, c, e, ht⟩ := h
  exact ⟨a, c, e, ht.below hB⟩
theorem Tx.one {w : World} {v : Value} {m : List Int} (h : Tx w v m) : v.oneCell' = true := by
  obtain ⟨a, c, rfl, -⟩ := h
  rfl
theorem range_of_block {w w' : World} {b o : Nat} {cs : List Value} (h : w'.heap[b]? = w.heap[b]?) (hr : w.rangeAt b o cs) : w'.rangeAt b o cs := fun j v hv => by
  rw [World.cell?_of_block (a := ⟨b, o + j, none⟩) h]
  exact hr j v hv
def txR (m : List Int) : Rel where
  r := fun w v => Tx w v m
  loc := fun w w' v hg ⟨a, c, e, ⟨h1, h2, h3, h4, h5⟩, h6⟩ => by
    refine ⟨a, c, e, ⟨h1, h2, h3, h4, fun hp => ?_⟩, h6⟩
    obtain ⟨b, o, ea, hr⟩ := h5 hp
    exact ⟨b, o, ea, range_of_block (hg b (by rw [e, ea]; exact .head _)) hr⟩
def TxL (w : World) : List Value → List (List Int) → Prop
  | [], [] => True
  | v :: vs, m :: ms => Tx w v m ∧ TxL w vs ms
  | _, _ => False
theorem TxL.len {w : World} : ∀ {vs : List Value} {ms : List (List Int)}, TxL w vs ms → vs.length = ms.length
  | [], [], _ => rfl
  | _ :: _, _ :: _, h => congrArg (· + 1) (TxL.len h.2)
  | [], _ :: _, h => h.elim
  | _ :: _, [], h => h.elim
theorem TxL.at {w : World} : ∀ {vs : List Value} {ms : List (List Int)}, TxL w vs ms → ∀ (i : Nat) (m : List Int), ms[i]? = some m → ∃ v, vs[i]? = some v ∧ Tx w v m
  | [], [], _, i, m, e => by simp at e
  | v :: _, _ :: _, h, 0, m, e => by
    simp only [List.getElem?_cons_zero, Option.some.injEq] at e
    subst e
    exact ⟨v, rfl, h.1⟩
  | _ :: _, _ :: _, h, i + 1, m, e => by
    have := TxL.at h.2 i m (by simpa using e)
    simpa using this
  | [], _ :: _, h, _, _, _ => h.elim
  | _ :: _, [], h, _, _, _ => h.elim
theorem own_none {w : World} {base n cap : Nat} {a : Option Addr} {xs : List Int} (h : H.OwnBytes w base (.slice a n cap) xs) : a = none → cap = 0 := fun e => by
  obtain ⟨h1, ⟨h2, h3⟩ | ⟨g, c, cur, h2, _⟩⟩ := h
  · simp at h2; exact h2.2.2
  · simp [e] at h2
theorem tx_own {w w' : World} {v : Value} {m : List Int} (h : H.OwnBytes w' w.heap.size v m) (hb : H.Bys m) : (txR m).r w' v ∧ ∀ g ∈ blks v, w.heap.size ≤ g ∧ g < w'.heap.size := by
  obtain ⟨a, c, rfl, hv⟩ := h.form hb
  refine ⟨⟨a, c, rfl, hv, own_none h⟩, fun g hg => ?_⟩
  obtain ⟨h1, ⟨h2, h3⟩ | ⟨b, cap, cur, h2, h3, h4, h5⟩⟩ := h
  · simp only [Value.slice.injEq] at h2
    obtain ⟨rfl, -, -⟩ := h2
    cases hg
  · simp only [Value.slice.injEq] at h2
    obtain ⟨rfl, -, -⟩ := h2
    obtain rfl : g = b := by simpa [blks] using hg
    exact ⟨h3, Own.lt h4⟩
theorem tx_bytes {w : World} {b n : Nat} {t : TypeId} (h : Own w b (B32 (bdig n)) t) : Tx w (.slice (some ⟨b, 0, none⟩) 32 32) (by32 n) := ⟨_, _, by rw [by32_length], by rw [Txt, by32_length]; exact ⟨bytes_own h, fun e => by cases e⟩⟩
theorem tx_byte {w : World} {b : Nat} {t : TypeId} {x : Int} (h : RowAt w b #[.int .u8 x] t) (h0 : 0 ≤ x ∧ x < 256) : Tx w (.slice (some ⟨b, 0, none⟩) 1 1) [x] := ⟨_, _, rfl, ⟨rfl, Nat.le_refl _, by decide, fun y hy => by rw [List.mem_singleton] at hy; rw [hy]; exact h0, fun _ => ⟨b, 0, rfl, fun j v hv => by
  rcases j with _ | j
  · obtain rfl : Value.int .u8 x = v := by simpa [H.u8s] using hv
    exact h.cell rfl
  · simp [H.u8s] at hv⟩⟩, fun e => by cases e⟩
theorem txt_byte {w : World} {b : Nat} {t : TypeId} {x : Int} (h : RowAt w b #[.int .u8 x] t) (h0 : 0 ≤ x ∧ x < 256) : Txt w (some ⟨b, 0, none⟩) 1 [x] := by
  obtain ⟨a, c, e, ht⟩ := tx_byte h h0
  simp only [Value.slice.injEq] at e
  obtain ⟨rfl, -, rfl⟩ := e
  exact ht
theorem txt_nil (w : World) : Txt w none 0 [] := ⟨⟨rfl, Nat.le_refl _, Nat.zero_le _, fun y hy => (by cases hy), fun hp => absurd hp (by decide)⟩, fun _ => rfl⟩
end Go.Proofs.YtgibllaifnnfkaaDoor
namespace Go.Proofs.YtgibllaifnnfkaaDoor.J
def rotl (x : Int) (s : Nat) : Int := bits .or .u32 (x * 2 ^ s % 4294967296) (x / 2 ^ (32 - s))
def word4 (a b c d : Int) : Int := bits .or .u32 (bits .or .u32 (bits .or .u32 (a * 16777216) (b * 65536)) (c * 256)) d
def xr (a b : Int) : Int := bits .xor .u32 a b
def sig0 (x : Int) : Int := xr (xr (rotl x 25) (rotl x 14)) (x / 8)
def sig1 (x : Int) : Int := xr (xr (rotl x 15) (rotl x 13)) (x / 1024)
def big0 (x : Int) : Int := xr (xr (rotl x 30) (rotl x 19)) (rotl x 10)
def big1 (x : Int) : Int := xr (xr (rotl x 26) (rotl x 21)) (rotl x 7)
def ad (a b : Int) : Int := (a + b) % 4294967296
def nextW (f : Nat → Int) (l : List Int) : Int :=
  if l.length < 16 then word4 (f (4 * l.length)) (f (4 * l.length + 1)) (f (4 * l.length + 2)) (f (4 * l.length + 3))
  else (l.getD (l.length - 16) 0 + sig0 (l.getD (l.length - 15) 0) + l.getD (l.length - 7) 0 + sig1 (l.getD (l.length - 2) 0)) % 4294967296
def sched (f : Nat → Int) : Nat → List Int
  | 0 => []
  | n + 1 => sched f n ++ [nextW f (sched f n)]
theorem sched_length (f : Nat → Int) : ∀ n, (sched f n).length = n
  | 0 => rfl
  | n + 1 => by simp [sched, sched_length f n]
def kays : List Int := [1116352408, 1899447441, 3049323471, 3921009573, 961987163, 1508970993, 2453635748, 2870763221, 3624381080, 310598401, 607225278, 1426881987, 1925078388, 2162078206, 2614888103, 3248222580, 3835390401, 4022224774, 264347078, 604807628, 770255983, 1249150122, 1555081692, 1996064986, 2554220882, 2821834349, 2952996808, 3210313671, 3336571891, 3584528711, 113926993, 338241895, 666307205, 773529912, 1294757372, 1396182291, 1695183700, 1986661051, 2177026350, 2456956037, 2730485921, 2820302411, 3259730800, 3345764771, 3516065817, 3600352804, 4094571909, 275423344, 430227734, 506948616, 659060556, 883997877, 958139571, 1322822218, 1537002063, 1747873779, 1955562222, 2024104815, 2227730452, 2361852424, 2428436474, 2756734187, 3204031479, 3329325298]
structure St where
  a : Int
  b : Int
  c : Int
  d : Int
  e : Int
  f : Int
  g : Int
  h : Int
def start : St := ⟨1779033703, 3144134277, 1013904242, 2773480762, 1359893119, 2600822924, 528734635, 1541459225⟩
def stArr (s : St) : Array Value := #[.int .u32 s.a, .int .u32 s.b, .int .u32 s.c, .int .u32 s.d, .int .u32 s.e, .int .u32 s.f, .int .u32 s.g, .int .u32 s.h]
def St.val (s : St) : Value := .agg (stArr s)
def ones : Int := if IntKind.u32.signed = true then -1 else IntKind.u32.max
def an (a b : Int) : Int := bits .and .u32 a b
def ch (e f g : Int) : Int := xr (an e f) (an (xr ones e) g)
def maj (a b c : Int) : Int := xr (xr (an a b) (an a c)) (an b c)
def tone (k x : Int) (s : St) : Int := (s.h + big1 s.e + ch s.e s.f s.g + k + x) % 4294967296
def ttwo (s : St) : Int := (big0 s.a + maj s.a s.b s.c) % 4294967296
def rnd (k x : Int) (s : St) : St := ⟨(tone k x s + ttwo s) % 4294967296, s.a, s.b, s.c, (s.d + tone k x s) % 4294967296, s.e, s.f, s.g⟩
def rnds (wf : Nat → Int) (s : St) : Nat → St
  | 0 => s
  | n + 1 => rnd (kays.getD n 0) (wf n) (rnds wf s n)
def addSt (s r : St) : St := ⟨(s.a + r.a) % 4294967296, (s.b + r.b) % 4294967296, (s.c + r.c) % 4294967296, (s.d + r.d) % 4294967296, (s.e + r.e) % 4294967296, (s.f + r.f) % 4294967296, (s.g + r.g) % 4294967296, (s.h + r.h) % 4294967296⟩
def mixS (s : St) (f : Nat → Int) : St := addSt s (rnds (fun i => (sched f 64).getD i 0) s 64)
def be4 (x : Int) : List Int := [x / 16777216, x / 65536 % 256, x / 256 % 256, x % 256]
def noughts (n : Nat) : Nat := (64 - (n % 64 + 1 + 8) % 64) % 64
def padL (n : Nat) : List Int := 128 :: (List.replicate (noughts n) 0 ++ (be4 ((n : Int) * 8 / 4294967296) ++ be4 ((n : Int) * 8 % 4294967296)))
theorem padL_length (n : Nat) : (padL n).length = 1 + noughts n + 8 := by simp [padL, be4]; omega
def u8s (l : List Int) : List Value := l.map (Value.int .u8)
def Bys (l : List Int) : Prop := ∀ x ∈ l, 0 ≤ x ∧ x < 256
theorem be4_bys (x : Int) (h : 0 ≤ x) (h' : x < 4294967296) : Bys (be4 x) := by
  intro y hy
  simp only [be4, List.mem_cons, List.not_mem_nil, or_false] at hy
  rcases hy with rfl | rfl | rfl | rfl <;> omega
theorem padL_bys (n : Nat) (h : n ≤ 1099511627776) : Bys (padL n) := by
  intro y hy
  simp only [padL, List.mem_cons, List.mem_append, List.mem_replicate] at hy
  rcases hy with rfl | ⟨_, rfl⟩ | hy | hy
  · omega
  · omega
  · exact be4_bys _ (by omega) (by omega) y hy
  · exact be4_bys _ (by omega) (by omega) y hy
end Go.Proofs.YtgibllaifnnfkaaDoor.J
namespace Go.Proofs.YtgibllaifnnfkaaDoor.J
open Go.RowKit
theorem ret_int {k : IntKind} {a b : Int} (h : a = b) : Ending.returned (.int k a) = .returned (.int k b) := by rw [h]
theorem and31 (k : Int) (h1 : -32 < k) (h2 : k < 0) : bits .and .u64 (IntKind.u64.wrap k) 31 = 32 + k := by
  have e : IntKind.u64.wrap k = 18446744073709551616 + k := by
    simp [IntKind.wrap, IntKind.bits, IntKind.signed]; omega
  rw [e]
  rw [show (31 : Int) = ((31 : Nat) : Int) from rfl]
  have := u64_and (18446744073709551616 + k) 31 (by omega) (by omega) (by omega) (by omega)
  rw [show ((31 : Nat) : Int) = (31 : Int) from rfl, this]
  rw [show (31 : Int).toNat = 31 from rfl, nat_mask5]
  omega
theorem sub_s (k : Int) (h1 : -32 < k) (h2 : k < 0) : IntKind.u64.wrap (32 - (32 + k)) = - k := by
  simp [IntKind.wrap, IntKind.bits, IntKind.signed]; omega
set_option maxHeartbeats 400000 in
theorem rot_any (x k : Int) (w : World) (h1 : -32 < k) (h2 : k < 0) :
    Calls Tryd.prog 59 #[.int .u32 x, .int .i64 k] w fun e w' => e = .returned (.int .u32 (rotl x (32 + k).toNat)) ∧ w' = w := by
  have hs := and31 k h1 h2
  have h3 : 0 ≤ 32 + k := by omega
  have hk := sub_s k h1 h2
  have h4 : 0 ≤ - k := by omega
  go_enter Tryd.func59, Tryd.ntmps59
  go_wp2
  go_ret
  refine ⟨ret_int ?_, rfl⟩
  unfold rotl
  rw [show 32 - (32 + k).toNat = (-k).toNat from by omega]
set_option maxHeartbeats 400000 in
theorem word_any (b off len cap : Nat) (x0 x1 x2 x3 : Int) (w : World) (hl : 4 ≤ len) (_ : len ≤ cap)
    (c0 : w.cell? ⟨b, off, none⟩ = some (.int .u8 x0)) (c1 : w.cell? ⟨b, off + 1, none⟩ = some (.int .u8 x1))
    (c2 : w.cell? ⟨b, off + 2, none⟩ = some (.int .u8 x2)) (c3 : w.cell? ⟨b, off + 3, none⟩ = some (.int .u8 x3))
    (b0 : 0 ≤ x0 ∧ x0 < 256) (b1 : 0 ≤ x1 ∧ x1 < 256) (b2 : 0 ≤ x2 ∧ x2 < 256) (b3 : 0 ≤ x3 ∧ x3 < 256) :
    Calls Tryd.prog 74 #[.slice (some ⟨b, off, none⟩) len cap] w fun e w' => e = .returned (.int .u32 (word4 x0 x1 x2 x3)) ∧ ∃ n, w' = w.drewN n := by
  have hl0 : (0 : Int) < (len : Int) := by omega
  have hl1 : (1 : Int) < (len : Int) := by omega
  have hl2 : (2 : Int) < (len : Int) := by omega
  have hl3 : (3 : Int) < (len : Int) := by omega
  go_enter Tryd.func74, Tryd.ntmps74
  go_wp2
  go_quiet (fail)
  go_wp2
  go_ret
  exact ⟨rfl, _, rfl⟩
set_option maxHeartbeats 400000 in
theorem putWord_any (b off len cap : Nat) (x : Int) (w : World) (v0 v1 v2 v3 : Value) (hl : 4 ≤ len) (_ : len ≤ cap) (hx : 0 ≤ x) (hx' : x < 4294967296)
    (c0 : w.cell? ⟨b, off, none⟩ = some v0) (c1 : w.cell? ⟨b, off + 1, none⟩ = some v1) (c2 : w.cell? ⟨b, off + 2, none⟩ = some v2) (c3 : w.cell? ⟨b, off + 3, none⟩ = some v3)
    (f0 : w.frozen? ⟨b, off, none⟩ = false) (f1 : w.frozen? ⟨b, off + 1, none⟩ = false) (f2 : w.frozen? ⟨b, off + 2, none⟩ = false) (f3 : w.frozen? ⟨b, off + 3, none⟩ = false) :
    Calls Tryd.prog 43 #[.slice (some ⟨b, off, none⟩) len cap, .int .u32 x] w fun e w' => e = .returned (.tuple #[]) ∧ w' = (((w.setCell ⟨b, off, none⟩ (.int .u8 (x / 16777216))).setCell ⟨b, off + 1, none⟩ (.int .u8 (x / 65536 % 256))).setCell ⟨b, off + 2, none⟩ (.int .u8 (x / 256 % 256))).setCell ⟨b, off + 3, none⟩ (.int .u8 (x % 256)) := by
  have hl0 : (0 : Int) < (len : Int) := by omega
  have hl1 : (1 : Int) < (len : Int) := by omega
  have hl2 : (2 : Int) < (len : Int) := by omega
  have hl3 : (3 : Int) < (len : Int) := by omega
  go_enter Tryd.func43, Tryd.ntmps43
  go_wp2
  go_end0
  exact ⟨rfl, rfl⟩
end Go.Proofs.YtgibllaifnnfkaaDoor.J
