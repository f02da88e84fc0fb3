/- Of the texts HK, SG0, SG1, RS: what the card of this claim reaches. -/
import Derived.Test.YtgibllaifnnfkaaGreatDoorXE22
import Derived.Test.YtgibllaifnnfkaaGreatDoorXE1
import Derived.Maps.AppendAt
import Derived.Laws.AppendOwnNone
import Derived.Test.YtgibllaifnnfkaaGreatDoorXE3
import Derived.Test.YtgibllaifnnfkaaGreatDoorXE11
import Derived.Test.YtgibllaifnnfkaaGreatDoorXE20
import Derived.Test.YtgibllaifnnfkaaGreatDoorXE12
import Derived.Test.YtgibllaifnnfkaaGreatDoorXE17
namespace Go.Proofs.YtgibllaifnnfkaaGreatDoor.H
open Go.RowKit
theorem BytesV.take {w : World} {a : Option Addr} {len cap : Nat} {m : List Int} (h : BytesV w a len cap m) (q : Nat) (hq : q ≤ len) : BytesV w a q cap (m.take q) := by
  obtain ⟨h1, h2, h3, h4, h5⟩ := h
  refine ⟨by simp; omega, by omega, h3, fun x hx => h4 x (List.mem_of_mem_take hx), fun hp => ?_⟩
  obtain ⟨b, off, e, hr⟩ := h5 (by omega)
  exact ⟨b, off, e, by simpa using range_part hr 0 q⟩
theorem BytesV.drop {w : World} {a : Option Addr} {len cap : Nat} {m : List Int} (h : BytesV w a len cap m) (q : Nat) (hq : q ≤ len) : BytesV w (cutAddr a cap q) (len - q) (cap - q) (m.drop q) := by
  obtain ⟨h1, h2, h3, h4, h5⟩ := h
  refine ⟨by simp; omega, by omega, by omega, fun x hx => h4 x (List.mem_of_mem_drop hx), fun hp => ?_⟩
  obtain ⟨b, off, e, hr⟩ := h5 (by omega)
  refine ⟨b, off + q, ?_, ?_⟩
  · rw [cutAddr, if_neg (by omega), e]; simp [Addr.add_mid]
  · have := range_part hr q (m.drop q).length
    rwa [List.take_length] at this
theorem _root_.Go.Proofs.YtgibllaifnnfkaaGreatDoor.Own.grown {w w' : World} {b g : Nat} {A : Array Value} {t : TypeId} (h : Own w b A t) (hg : w.grownBy w' (some g)) (hb : b ≠ g) : Own w' b A t := by
  unfold Own; rw [hg.block b h.lt (by simpa using hb)]; exact h
theorem ShaAt.grown {w w' : World} {g b : Nat} {l : List Int} (h : ShaAt w b l) (hg : w.grownBy w' (some g)) (hb : b ≠ g) : ShaAt w' b l := by
  obtain ⟨bl, tl, htl, btl, ho, hrest⟩ := h
  exact ⟨bl, tl, htl, btl, ho.grown hg hb, hrest⟩
theorem bel {w a b : World} (h : Below w.heap.size w a) (k : Below a.heap.size a b) : Below w.heap.size w b := h.trans (k.mono h.size)
theorem belg {w a b : World} {g : Nat} (h : Below w.heap.size w a) (k : a.grownBy b (some g)) (hg : w.heap.size ≤ g) : Below w.heap.size w b := below_grown h k h.size hg
def OwnBytes (w : World) (base : Nat) (v : Value) (xs : List Int) : Prop := w.ownsRow base 5 1 v xs.length (u8s xs)
theorem OwnBytes.form {w : World} {base : Nat} {v : Value} {xs : List Int} (h : OwnBytes w base v xs) (hx : Bys xs) : ∃ a cap, v = .slice a xs.length cap ∧ BytesV w a xs.length cap xs := by
  obtain ⟨h1, ⟨h2, h3⟩ | ⟨g, cap, cur, h2, h3, h4, h5, h6, h7, h8⟩⟩ := h
  · obtain rfl := List.eq_nil_of_length_eq_zero h3
    exact ⟨none, 0, h2, rfl, Nat.le_refl _, by decide, fun x hx => by simp at hx, fun hp => absurd hp (by decide)⟩
  · refine ⟨some ⟨g, 0, none⟩, cap, h2, rfl, h5, h6, hx, fun _ => ⟨g, 0, rfl, fun j v hv => ?_⟩⟩
    rw [Nat.zero_add, cell_of_row w g j cur 5 (0, 0) h4, ← hv, ← h8]
    have hj : j < xs.length := by
      have := (List.getElem?_eq_some_iff.1 hv).1
      simpa [u8s] using this
    rw [List.getElem?_take, if_pos (by omega)]; simp
theorem OwnBytes.grown {w w' : World} {base g : Nat} {v : Value} {xs : List Int} (h : OwnBytes w base v xs) (hg : w.grownBy w' (some g)) (hb : g < base) : OwnBytes w' base v xs := by
  obtain ⟨h1, h2 | ⟨g', cap, cur, h2, h3, h4, h5⟩⟩ := h
  · exact ⟨h1, .inl h2⟩
  · refine ⟨h1, .inr ⟨g', cap, cur, h2, h3, ?_, h5⟩⟩
    rw [hg.block g' (Array.getElem?_eq_some_iff.1 h4).1 (by simp; omega)]; exact h4
theorem OwnBytes.below {w w' : World} {base : Nat} {v : Value} {xs : List Int} (h : OwnBytes w base v xs) (hB : Below w.heap.size w w') : OwnBytes w' base v xs := by
  obtain ⟨h1, h2 | ⟨g', cap, cur, h2, h3, h4, h5⟩⟩ := h
  · exact ⟨h1, .inl h2⟩
  · refine ⟨h1, .inr ⟨g', cap, cur, h2, h3, ?_, h5⟩⟩
    rw [hB.block g' (Array.getElem?_eq_some_iff.1 h4).1]; exact h4
theorem OwnBytes.base_le {w : World} {base g : Nat} {v : Value} {xs : List Int} (h : OwnBytes w base v xs) (hv : v.ownBlock = some g) : base ≤ g := by
  obtain ⟨h1, ⟨rfl, _⟩ | ⟨g', cap, cur, rfl, h3, _⟩⟩ := h
  · simp [Value.ownBlock] at hv
  · have : g' = g := by simpa [Value.ownBlock] using hv
    omega
theorem ownBytes_nil (w : World) (base : Nat) : OwnBytes w base (.slice none 0 0) [] := ⟨rfl, .inl ⟨rfl, rfl⟩⟩
theorem wpList_append_bytes {w : World} {ops : Array Oper} {rest : List Oper} {o : Oper} {a : Act} {Q : Exit → Act → World → Prop} (hgd : o.guard = none) (s x : Operand)
    (ho : o.op = .call { callee := .builtin .append, args := #[s, x], argTypes := #[23, 23] })
    (base : Nat) (v : Value) (xs : List Int) (hs : a.eval s = v) (hown : OwnBytes w base v xs) (bx : Bys xs)
    (sa : Option Addr) (len cap : Nat) (m : List Int) (hx : a.eval x = .slice sa len cap) (hm : BytesV w sa len cap m) (hn : sa = none → cap = 0)
    (hl : xs.length + m.length ≤ 1099511627776) (hbase : base ≤ w.heap.size)
    (h : ∀ a' cap' w', OwnBytes w' base (.slice a' (xs.length + m.length) cap') (xs ++ m) → w.grownBy w' v.ownBlock → BytesV w' a' (xs.length + m.length) cap' (xs ++ m) → wpList Tryz.prog ops Q rest (a.put o.dst (.slice a' (xs.length + m.length) cap')) w') :
    wpList Tryz.prog ops Q (o :: rest) a w := by
  have hb : Bys (xs ++ m) := fun y hy => (List.mem_append.1 hy).elim (bx y) (hm.2.2.2.1 y)
  obtain ⟨i, hi, hz, hsize, hby⟩ : ∃ i, Tryz.prog.info? 5 = some i ∧ i.zero = some (.int .u8 0) ∧ i.size = 1 ∧ i.bytes = 1 := by
    have := info5
    cases hq : Tryz.prog.info? 5 with
    | none => simp [hq] at this
    | some i => exact ⟨i, rfl, by simp [hq] at this; exact this⟩
  have close : ∀ v' w', OwnBytes w' base v' (xs ++ m) → w.grownBy w' v.ownBlock → wpList Tryz.prog ops Q rest (a.put o.dst v') w' := fun v' w' h1 h2 => by
    obtain ⟨a', cap', rfl, hv⟩ := h1.form hb
    rw [List.length_append] at h1 hv ⊢
    exact h a' cap' w' h1 h2 hv
  cases sa with
  | none =>
    obtain rfl := hn rfl
    have h0 : len = 0 := by
      rcases Nat.eq_zero_or_pos len with h | h
      · exact h
      · obtain ⟨b, off, e, _⟩ := hm.2.2.2.2 h; cases e
    subst h0
    have : m = [] := List.eq_nil_of_length_eq_zero hm.1.symm
    subst this
    refine wpList_append_own_none hgd s x 23 ho base 5 i 1 Tryz.underlying23 hi v xs.length (u8s xs) hs hown hx ?_
    exact close v w (by rw [List.append_nil]; exact hown) ⟨rfl, rfl, rfl, Nat.le_refl _, fun _ _ _ => rfl⟩
  | some ad =>
    refine wpList_append_own_at (P := Tryz.prog) w hgd s x 23 ho base 5 i (.int .u8 0) 1 1 Tryz.underlying23 hi hz hsize hby rfl (by decide) v xs.length (u8s xs) hs hown ad len cap (u8s m) hx (by rw [u8s, List.length_map, ← hm.1]; omega) (fun j u hu => ?_) (u8s_one _) (by rw [hm.1]; unfold maxLen; omega) (by rw [hm.1]; omega) hbase ?_
    · have hj : j < m.length := by
        have := (List.getElem?_eq_some_iff.1 hu).1
        simpa [u8s] using this
      obtain ⟨b, off, e, hr⟩ := hm.2.2.2.2 (by rw [hm.1]; omega)
      simp only [Option.some.injEq] at e
      rw [e, Addr.add_mid]; exact hr j u hu
    · intro v' w' h1 h2 _ _
      refine close v' w' ?_ h2
      have e : len = m.length := hm.1
      subst e
      unfold OwnBytes
      rw [List.length_append, u8s, List.map_append]; exact h1
def slv (p : Option Addr × Nat × List Int) : Value := .slice p.1 p.2.2.length p.2.1
theorem rowsV_new (w : World) (ps : List (Option Addr × Nat × List Int)) (h : ∀ p ∈ ps, BytesV w p.1 p.2.2.length p.2.1 p.2.2 ∧ (p.1 = none → p.2.1 = 0)) (hl : ps.length ≤ maxLen) :
    RowsV (w.alloc (.cells (ps.map slv).toArray 23)) (some ⟨w.heap.size, 0, none⟩) ps.length ps.length (ps.map (·.2.2)) := by
  refine ⟨by simp, Nat.le_refl _, hl, fun _ => ⟨_, _, rfl, fun i m hm => ?_⟩⟩
  rw [List.getElem?_map] at hm
  cases hp : ps[i]? with
  | none => simp [hp] at hm
  | some p =>
    rw [hp] at hm
    obtain rfl := Option.some.inj hm
    obtain ⟨h1, h2⟩ := h p (List.mem_of_getElem? hp)
    refine ⟨p.1, p.2.1, ?_, h1.below ((Below.refl _ _).alloc (Nat.le_refl _) _), h2⟩
    rw [Nat.zero_add, cell_of_row _ w.heap.size i _ 23 (0, 0) (heap_alloc_last w _)]
    simp [hp, slv]
theorem alloc_below (w : World) (o : Obj) : Below w.heap.size w (w.alloc o) := (Below.refl _ _).alloc (Nat.le_refl _) _
end Go.Proofs.YtgibllaifnnfkaaGreatDoor.H
namespace Go.Proofs.YtgibllaifnnfkaaGreatDoor.H
open Go.RowKit
set_option maxRecDepth 100000 in
theorem twin_any (a : Option Addr) (cap : Nat) (m : List Int) (w : World) (hm : BytesV w a m.length cap m) (hcap : a = none → cap = 0) (hl : m.length ≤ 1000000) :
    Calls Tryz.prog 4 #[.slice a m.length cap] w fun e w' => ∃ a' cap', e = .returned (.slice a' m.length cap') ∧ OwnBytes w' w.heap.size (.slice a' m.length cap') m ∧ BytesV w' a' m.length cap' m ∧ w.grownBy w' none := by
  go_enter Tryz.func4, Tryz.ntmps4
  go_wp2_with (at_builtin; refine wpList_append_bytes (by rfl) (.tmp 4) (.tmp 5) (by rfl) w.heap.size (.slice none 0 0) [] (by rfl) (ownBytes_nil _ _) (fun x hx => by simp at hx) a m.length cap m (by rfl) hm hcap (by simp; omega) (Nat.le_refl _) ?_; intro a1 cap1 w1 hO1 hg1 hV1; simp only [List.length_nil, Nat.zero_add, List.nil_append] at hO1 hV1 ⊢)
  go_ret
  exact ⟨a1, cap1, rfl, hO1, hV1, hg1⟩
theorem BytesV.at {w : World} {a : Option Addr} {len cap : Nat} {m : List Int} (h : BytesV w a len cap m) (k : Nat) (hk : k < len) : ∃ b off, a = some ⟨b, off, none⟩ ∧ w.cell? ⟨b, off + k, none⟩ = some (.int .u8 (m.getD k 0)) := by
  obtain ⟨b, off, e, hr⟩ := h.2.2.2.2 (by omega)
  have : k < m.length := by rw [← h.1]; exact hk
  exact ⟨b, off, e, hr k _ (by simp [u8s, this, List.getD])⟩
set_option maxRecDepth 100000 in
theorem bytes_any (a a' : Option Addr) (len cap cap' : Nat) (m : List Int) (w : World) (h1 : BytesV w a len cap m) (h2 : BytesV w a' len cap' m) :
    Calls Tryz.prog 8 #[.slice a len cap, .slice a' len cap'] w fun e w' => e = .returned (.bool true) ∧ Below w.heap.size w w' := by
  have hlM : len ≤ maxLen := Nat.le_trans h1.2.1 h1.2.2.1
  have hlm : (len : Int) ≤ 9223372036854775807 := by unfold maxLen at hlM; omega
  go_enter Tryz.func8, Tryz.ntmps8
  go_wp2_with fail
  go_loopw [5] (fun i wr => ∃ k : Nat, k ≤ len ∧ i = .int .i64 (k : Int) ∧ Below w.heap.size w wr) (fun i _ => len - (intOf i).toNat)
  case atStart => exact ⟨0, Nat.zero_le _, rfl, Below.refl _ _⟩
  case round =>
    obtain ⟨k, hk, rfl, hb⟩ := hrel
    by_cases hkl : k < len
    · have hki : (k : Int) < (len : Int) := by omega
      have hk0 : (0 : Int) ≤ (k : Int) := by omega
      obtain ⟨b, off, rfl, c1⟩ := (h1.below hb).at k hkl
      obtain ⟨b', off', rfl, c2⟩ := (h2.below hb).at k hkl
      generalize m.getD k 0 = x at *
      have hx : (x == x) = true := beq_self_eq_true x
      have hx' : (x != x) = false := by rw [bne, hx]; rfl
      go_wp2_with fail
      go_region
      go_wp2_with fail
      go_roundw
      case rel => exact ⟨k + 1, by omega, by go_num, hb.trans ((Below.refl _ _).drew)⟩
      case measure => simp [intOf]; omega
    · have hki : ¬ (k : Int) < (len : Int) := by omega
      go_wp2_with fail
      go_ret
      exact ⟨rfl, hb⟩
end Go.Proofs.YtgibllaifnnfkaaGreatDoor.H
namespace Go.Proofs.YtgibllaifnnfkaaGreatDoor
open Go Go.RowKit
def by32 (n : Nat) : List Int := (List.range 32).map fun i => (bdig n i : Int)
theorem by32_length (n : Nat) : (by32 n).length = 32 := by simp [by32]
theorem by32_bys (n : Nat) : H.Bys (by32 n) := fun x hx => by
  obtain ⟨i, -, rfl⟩ := List.mem_map.1 hx
  have := bdig_lt n i
  omega
theorem by32_u8s (n : Nat) : H.u8s (by32 n) = (B32 (bdig n)).toList := by
  unfold H.u8s by32 B32
  simp
theorem digest_bys (l : List Int) : H.Bys (H.digest l) := fun x hx => by
  unfold H.digest H.sumBytes at hx
  obtain ⟨y, -, hy⟩ := List.mem_flatMap.1 hx
  exact H.be8_bys y x hy
def dn (l : List Int) : Nat := vb (fun i => ((H.digest l).getD i 0).toNat) 64
theorem digest_at (l : List Int) (i : Nat) : 0 ≤ (H.digest l).getD i 0 ∧ (H.digest l).getD i 0 < 256 := by
  by_cases hi : i < (H.digest l).length
  · have e : (H.digest l).getD i 0 = (H.digest l)[i] := by simp [List.getD, hi]
    rw [e]
    exact digest_bys l _ (List.getElem_mem hi)
  · have e : (H.digest l).getD i 0 = 0 := by simp [List.getD, hi]
    rw [e]
    decide
theorem dn_byte (l : List Int) (i : Nat) (hi : i < 64) : (bdig (dn l) i : Int) = (H.digest l).getD i 0 := by
  have hb := digest_at l i
  unfold dn
  rw [bdig_vb _ 64 (fun j _ => by have := digest_at l j; omega) i hi]
  omega
theorem dn_lt (l : List Int) : dn l < R512 := by
  have h : R512 = 256 ^ 64 := by decide
  rw [h]
  exact vb_lt _ 64 fun i _ => by have := digest_at l i; omega
theorem dig_dn (l : List Int) : H.dig l = B64 (bdig (dn l)) := by
  apply Array.ext_getElem?
  intro i
  by_cases hi : i < 64
  · rw [B64_at _ i hi, dn_byte l i hi]
    have hl := H.digest_length l
    have hi' : i < (H.digest l).length := by omega
    simp [H.dig, H.u8s, List.getD, hi']
  · rw [Array.getElem?_eq_none (by rw [H.dig_size]; omega), Array.getElem?_eq_none (by rw [B64_size]; omega)]
theorem R256_pow : R256 = 256 ^ 32 := by decide
theorem bdig_lo (z j : Nat) (hj : j < 32) : bdig (z % R256) j = bdig z j := by
  unfold bdig
  rw [R256_pow, show (256 : Nat) ^ 32 = 256 ^ j * 256 ^ (32 - j) by rw [← Nat.pow_add]; congr 1; omega, Nat.mod_mul_right_div_self]
  rw [Nat.mod_mod_of_dvd]
  exact ⟨256 ^ (32 - j - 1), by rw [← Nat.pow_succ']; congr 1; omega⟩
theorem bdig_hi (z j : Nat) : bdig (z / R256) j = bdig z (32 + j) := by
  unfold bdig
  rw [R256_pow, Nat.div_div_eq_div_mul, ← Nat.pow_add]
def two (lo hi : Nat) : Nat := lo + R256 * hi
theorem two_lo {lo hi : Nat} (h : lo < R256) : two lo hi % R256 = lo := by
  unfold two
  rw [Nat.add_mul_mod_self_left, Nat.mod_eq_of_lt h]
theorem two_hi {lo hi : Nat} (h : lo < R256) : two lo hi / R256 = hi := by
  unfold two
  rw [Nat.add_mul_div_left _ _ (by decide), Nat.div_eq_of_lt h, Nat.zero_add]
theorem two_parts (z : Nat) : two (z % R256) (z / R256) = z := Nat.mod_add_div z R256
theorem two_lt {lo hi : Nat} (h : lo < R256) (h2 : hi < R256) : two lo hi < R512 := by
  unfold two
  rw [R512_eq]
  generalize R256 = R at *
  have h3 : R * (hi + 1) ≤ R * R := Nat.mul_le_mul_left _ h2
  rw [Nat.mul_add, Nat.mul_one] at h3
  omega
theorem lo_lt (z : Nat) : z % R256 < R256 := Nat.mod_lt _ (by decide)
theorem hi_lt {z : Nat} (h : z < R512) : z / R256 < R256 := by
  rw [R512_eq] at h
  exact Nat.div_lt_of_lt_mul h
theorem B64_lo {w : World} {b z : Nat} {t : TypeId} (h : Own w b (B64 (bdig z)) t) : w.rangeAt b 0 (B32 (bdig (z % R256))).toList := fun j v hv => by
  rw [Array.getElem?_toList] at hv
  have hj : j < 32 := by have := (Array.getElem?_eq_some_iff.1 hv).1; rwa [B32_size] at this
  rw [B32_at _ j hj, bdig_lo z j hj] at hv
  rw [Nat.zero_add, ← hv]
  exact h.cell (B64_at _ j (by omega))
theorem B64_hi {w : World} {b z : Nat} {t : TypeId} (h : Own w b (B64 (bdig z)) t) : w.rangeAt b 32 (B32 (bdig (z / R256))).toList := fun j v hv => by
  rw [Array.getElem?_toList] at hv
  have hj : j < 32 := by have := (Array.getElem?_eq_some_iff.1 hv).1; rwa [B32_size] at this
  rw [B32_at _ j hj, bdig_hi z j] at hv
  rw [← hv]
  exact h.cell (B64_at _ (32 + j) (by omega))
theorem bytes_at {w : World} {b o c n : Nat} (hc : 32 ≤ c) (hm : c ≤ maxLen) (h : w.rangeAt b o (B32 (bdig n)).toList) : H.BytesV w (some ⟨b, o, none⟩) 32 c (by32 n) :=
  ⟨(by32_length n).symm, hc, hm, by32_bys n, fun _ => ⟨b, o, rfl, by rw [by32_u8s]; exact h⟩⟩
theorem bytes_own {w : World} {b n : Nat} {t : TypeId} (h : Own w b (B32 (bdig n)) t) : H.BytesV w (some ⟨b, 0, none⟩) 32 32 (by32 n) := bytes_at (Nat.le_refl _) (by decide) h.range
theorem B64_le (f g : Nat → Nat) : 0 + (B64 f).size ≤ (B64 g).size := by rw [B64_size, B64_size]; exact Nat.le_refl _
theorem B64_list (f : Nat → Nat) : B64 f = (((List.range 64).map fun i => (f i : Int)).map (Value.int .u8)).toArray := by
  unfold B64; rw [List.map_map]; rfl
theorem infoU8s : (Tryz.prog.info? 5).map (·.size) = some 1 := by kernel_rfl
set_option maxRecDepth 100000 in
theorem B64_eq (x y : Nat) (hx : x < R512) (hy : y < R512) (w : World) : (Op.equalIn 10000 24 (.agg (B64 (bdig x))) (.agg (B64 (bdig y)))).run Tryz.prog w = .ok (decide (x = y)) w := by
  have h := run_equalIn_ints (P := Tryz.prog) w 9998 24 5 64 .u8 Tryz.underlying24 Tryz.underlying5 infoU8s ((List.range 64).map fun i => (bdig x i : Int)) ((List.range 64).map fun i => (bdig y i : Int)) (by simp) (by simp)
  rw [B64_list, B64_list]
  rw [h]
  congr 1
  by_cases e : x = y
  · subst e; simp
  · rw [decide_eq_false e]
    refine beq_eq_false_iff_ne.2 fun he => e ?_
    rw [← vb64 hx, ← vb64 hy]
    refine vb_congr 64 fun i hi => ?_
    have := congrArg (fun l : List Int => l[i]?) he
    simp [hi] at this
    exact_mod_cast this
theorem B64_same (x : Nat) (hx : x < R512) (w : World) : (Op.equalIn 10000 24 (.agg (B64 (bdig x))) (.agg (B64 (bdig x)))).run Tryz.prog w = .ok true w := by
  rw [B64_eq x x hx hx]; simp
def Txt (w : World) (a : Option Addr) (cap : Nat) (m : List Int) : Prop := H.BytesV w a m.length cap m ∧ (a = none → cap = 0)
theorem Txt.below {w w' : World} {a : Option Addr} {cap : Nat} {m : List Int} (h : Txt w a cap m) (hB : Below w.heap.size w w') : Txt w' a cap m := ⟨h.1.below hB, h.2⟩
structure Low (T : World → Prop) : Prop where
  keep : ∀ w w', T w → Below w.heap.size w w' → T w'
  wsum : ∀ a len cap ms w, T w → H.RowsV w a len cap ms → ms.flatten.length ≤ 16000000 → Calls Tryz.prog 29 #[.slice a len cap] w fun x w' => x = .returned (.agg (B64 (bdig (dn ms.flatten)))) ∧ Below w.heap.size w w'
  swide : ∀ a, a < R512 → ∀ w, T w → Calls Tryz.prog 28 #[.agg (B64 (bdig a))] w fun x w' => x = .returned (.agg (B32 (bdig (a % LL)))) ∧ Below w.heap.size w w'
  scheck : ∀ a, a < R256 → ∀ w, T w → Calls Tryz.prog 32 #[.agg (B32 (bdig a))] w fun x w' => x = .returned (.bool (decide (a < LL))) ∧ Below w.heap.size w w'
  smuladd : ∀ a b c, a < R256 → b < R256 → c < R256 → ∀ w, T w → Calls Tryz.prog 30 #[.agg (B32 (bdig a)), .agg (B32 (bdig b)), .agg (B32 (bdig c))] w fun x w' => x = .returned (.agg (B32 (bdig ((a * b + c) % LL)))) ∧ Below w.heap.size w w'
  add : ∀ (P Q : Pt E5) w, T w → Calls Tryz.prog 34 #[.agg (B32 (bdig (enc P))), .agg (B32 (bdig (enc Q)))] w fun x w' => x = .returned (.tuple #[.agg (B32 (bdig (enc (P.add Q)))), .int .i64 0]) ∧ Below w.heap.size w w'
  add_not : ∀ a b, a < R256 → b < R256 → ((∀ P : Pt E5, enc P ≠ a) ∨ ∀ P : Pt E5, enc P ≠ b) → ∀ w, T w → Calls Tryz.prog 34 #[.agg (B32 (bdig a)), .agg (B32 (bdig b))] w fun x w' => x = .returned (.tuple #[.agg (B32 fun _ => 0), .int .i64 1]) ∧ Below w.heap.size w w'
  mul : ∀ n, n < R256 → ∀ (P : Pt E5) w, T w → Calls Tryz.prog 33 #[.agg (B32 (bdig n)), .agg (B32 (bdig (enc P)))] w fun x w' => x = .returned (.tuple #[.agg (B32 (bdig (enc (Pt.times n P)))), .int .i64 0]) ∧ Below w.heap.size w w'
  mul_not : ∀ n a, n < R256 → a < R256 → (∀ P : Pt E5, enc P ≠ a) → ∀ w, T w → Calls Tryz.prog 33 #[.agg (B32 (bdig n)), .agg (B32 (bdig a))] w fun x w' => x = .returned (.tuple #[.agg (B32 fun _ => 0), .int .i64 1]) ∧ Below w.heap.size w w'
  base : ∀ n, n < R256 → ∀ w, T w → Calls Tryz.prog 26 #[.agg (B32 (bdig n))] w fun x w' => x = .returned (.agg (B32 (bdig (enc (Pt.times n BP))))) ∧ Below w.heap.size w w'
section
variable {T : World → Prop} (F : Low T)
include F
theorem Low.wsumA {a : Option Addr} {len cap z : Nat} {ms : List (List Int)} {l : List Int} (hl : ms.flatten = l) (hz : dn l = z) (hn : l.length ≤ 16000000) (w : World) (hT : T w) (hR : H.RowsV w a len cap ms) : Calls Tryz.prog 29 #[.slice a len cap] w fun x w' => x = .returned (.agg (B64 (bdig z))) ∧ Below w.heap.size w w' := by
  subst hl; subst hz; exact F.wsum a len cap ms w hT hR hn
theorem Low.swideA {a c : Nat} (ha : a < R512) (hc : a % LL = c) (w : World) (hT : T w) : Calls Tryz.prog 28 #[.agg (B64 (bdig a))] w fun x w' => x = .returned (.agg (B32 (bdig c))) ∧ Below w.heap.size w w' := by
  subst hc; exact F.swide a ha w hT
theorem Low.smuladdA {a b c d : Nat} (ha : a < R256) (hb : b < R256) (hc : c < R256) (hd : (a * b + c) % LL = d) (w : World) (hT : T w) : Calls Tryz.prog 30 #[.agg (B32 (bdig a)), .agg (B32 (bdig b)), .agg (B32 (bdig c))] w fun x w' => x = .returned (.agg (B32 (bdig d))) ∧ Below w.heap.size w w' := by
  subst hd; exact F.smuladd a b c ha hb hc w hT
theorem Low.scheckA {a : Nat} {b : Bool} (ha : a < R256) (hb : decide (a < LL) = b) (w : World) (hT : T w) : Calls Tryz.prog 32 #[.agg (B32 (bdig a))] w fun x w' => x = .returned (.bool b) ∧ Below w.heap.size w w' := by
  subst hb; exact F.scheck a ha w hT
theorem Low.addA {P Q : Pt E5} {a b c : Nat} (ha : enc P = a) (hb : enc Q = b) (hc : enc (P.add Q) = c) (w : World) (hT : T w) : Calls Tryz.prog 34 #[.agg (B32 (bdig a)), .agg (B32 (bdig b))] w fun x w' => x = .returned (.tuple #[.agg (B32 (bdig c)), .int .i64 0]) ∧ Below w.heap.size w w' := by
  subst ha; subst hb; subst hc; exact F.add P Q w hT
theorem Low.mulA {n : Nat} {P : Pt E5} {a c : Nat} (hn : n < R256) (ha : enc P = a) (hc : enc (Pt.times n P) = c) (w : World) (hT : T w) : Calls Tryz.prog 33 #[.agg (B32 (bdig n)), .agg (B32 (bdig a))] w fun x w' => x = .returned (.tuple #[.agg (B32 (bdig c)), .int .i64 0]) ∧ Below w.heap.size w w' := by
  subst ha; subst hc; exact F.mul n hn P w hT
theorem Low.baseA {n c : Nat} (hn : n < R256) (hc : enc (Pt.times n BP) = c) (w : World) (hT : T w) : Calls Tryz.prog 26 #[.agg (B32 (bdig n))] w fun x w' => x = .returned (.agg (B32 (bdig c))) ∧ Below w.heap.size w w' := by
  subst hc; exact F.base n hn w hT
end
end Go.Proofs.YtgibllaifnnfkaaGreatDoor
namespace Go.Proofs.YtgibllaifnnfkaaGreatDoor
open Go Go.RowKit
theorem B64_lo2 {w : World} {b lo hi : Nat} {t : TypeId} (h : lo < R256) (ho : Own w b (B64 (bdig (two lo hi))) t) : w.rangeAt b 0 (B32 (bdig lo)).toList := by
  have := B64_lo ho
  rwa [two_lo h] at this
theorem B64_hi2 {w : World} {b lo hi : Nat} {t : TypeId} (h : lo < R256) (ho : Own w b (B64 (bdig (two lo hi))) t) : w.rangeAt b 32 (B32 (bdig hi)).toList := by
  have := B64_hi ho
  rwa [two_hi h] at this
theorem bytes_hi2 {w : World} {b lo hi : Nat} {t : TypeId} (h : lo < R256) (ho : Own w b (B64 (bdig (two lo hi))) t) : H.BytesV w (some ⟨b, 32, none⟩) 32 32 (by32 hi) := bytes_at (Nat.le_refl _) (by decide) (B64_hi2 h ho)
theorem B32_len7 (f : Nat → Nat) : (Tryz.prog.info? 22).map (·.size) = some (B32 f).toList.length := by rw [infoB32, Array.length_toList, B32_size]
theorem B32_len0 (f : Nat → Nat) : (B32 f).toList.length = 32 := by rw [Array.length_toList, B32_size]
theorem B32_ones (f : Nat → Nat) : ∀ v ∈ (B32 f).toList, v.oneCell' = true := fun v hv => by
  unfold B32 at hv
  obtain ⟨i, -, rfl⟩ := List.mem_map.1 hv
  rfl
theorem rows1 {w : World} {a : Option Addr} {n c : Nat} {m : List Int} (h : H.BytesV w a n c m) (hc : a = none → c = 0) : H.RowsV (w.alloc (.cells #[.slice a n c] 23)) (some ⟨w.heap.size, 0, none⟩) 1 1 [m] := by
  have e := h.1
  subst e
  exact H.rowsV_new w [(a, c, m)] (fun p hp => by
    obtain rfl := List.mem_singleton.1 hp
    exact ⟨h, hc⟩) (show 1 ≤ maxLen by decide)
theorem rows2 {w : World} {a a2 : Option Addr} {n c n2 c2 : Nat} {m m2 : List Int} (h : H.BytesV w a n c m) (hc : a = none → c = 0) (h2 : H.BytesV w a2 n2 c2 m2) (hc2 : a2 = none → c2 = 0) : H.RowsV (w.alloc (.cells #[.slice a n c, .slice a2 n2 c2] 23)) (some ⟨w.heap.size, 0, none⟩) 2 2 [m, m2] := by
  have e := h.1
  subst e
  have e := h2.1
  subst e
  exact H.rowsV_new w [(a, c, m), (a2, c2, m2)] (fun p hp => by
    simp only [List.mem_cons, List.not_mem_nil, or_false] at hp
    rcases hp with rfl | rfl
    · exact ⟨h, hc⟩
    · exact ⟨h2, hc2⟩) (show 2 ≤ maxLen by decide)
theorem rows3 {w : World} {a a2 a3 : Option Addr} {n c n2 c2 n3 c3 : Nat} {m m2 m3 : List Int} (h : H.BytesV w a n c m) (hc : a = none → c = 0) (h2 : H.BytesV w a2 n2 c2 m2) (hc2 : a2 = none → c2 = 0) (h3 : H.BytesV w a3 n3 c3 m3) (hc3 : a3 = none → c3 = 0) : H.RowsV (w.alloc (.cells #[.slice a n c, .slice a2 n2 c2, .slice a3 n3 c3] 23)) (some ⟨w.heap.size, 0, none⟩) 3 3 [m, m2, m3] := by
  have e := h.1
  subst e
  have e := h2.1
  subst e
  have e := h3.1
  subst e
  exact H.rowsV_new w [(a, c, m), (a2, c2, m2), (a3, c3, m3)] (fun p hp => by
    simp only [List.mem_cons, List.not_mem_nil, or_false] at hp
    rcases hp with rfl | rfl | rfl
    · exact ⟨h, hc⟩
    · exact ⟨h2, hc2⟩
    · exact ⟨h3, hc3⟩) (show 3 ≤ maxLen by decide)
theorem rows_bel {w w' : World} {v : Value} {n : Nat} {ms : List (List Int)} (h : ∃ aq, v = .slice aq n n ∧ H.RowsV w aq n n ms) (hB : Below w.heap.size w w') : ∃ aq, v = .slice aq n n ∧ H.RowsV w' aq n n ms := by
  obtain ⟨aq, e, hr⟩ := h
  exact ⟨aq, e, hr.below hB⟩
theorem txt_bel {w w' : World} {v : Value} {l : List Int} (h : ∃ aq cq, v = .slice aq l.length cq ∧ Txt w aq cq l) (hB : Below w.heap.size w w') : ∃ aq cq, v = .slice aq l.length cq ∧ Txt w' aq cq l := by
  obtain ⟨aq, cq, e, hr⟩ := h
  exact ⟨aq, cq, e, hr.below hB⟩
theorem dept {ops : Array Oper} {a0 : Act} {F : Nat → Value → Prop} {J : (Nat → Bool) → (Nat → Value) → World → Prop} {L : Nat → Bool} {vs : Nat → Value} {a : Act} {w : World} (h : Told ops a0 F J L vs a w) (k : Nat) {o : Oper} (ho : ops[k]? = some o) (hk : L k = true) (j : Nat)
    (hB : (o.after.toList.any fun e => e.on == j && Region.binds .any e) = true) : L j = true := dep (fun e he hb => h.closed k o ho hk e he hb) j hB
theorem wpList_alloc7 {P : Program} {ops : Array Oper} {rest : List Oper} {op : Oper} {a : Act} {w : World} {Q : Exit → Act → World → Prop} (hgd : op.guard = none) (t : TypeId) (ho : op.op = .alloc t) {Z : Array Value} (hz : ∀ w, (zeroValue t).run P w = .ok (.agg Z) w)
    (h : wpList P ops Q rest (a.put op.dst (.pointer (some ⟨w.heap.size, 0, none⟩))) (w.alloc (.cells Z t))) : wpList P ops Q (op :: rest) a w :=
  wpList_plain hgd fun _ hK => by
    unfold Oper.wp
    simp only [execOp, ho]
    go_simp
    exact hK _ _ h
theorem wpList_news2 {P : Program} {ops : Array Oper} {rest : List Oper} {op1 op2 op3 op4 : Oper} {a : Act} {w : World} {Q : Exit → Act → World → Prop} {l : List (Nat × Array Value × TypeId)} {w0 : World} (hK : Kp l w0 w) (t1 t2 : TypeId) (p1 p2 x1 x2 : Nat) {A1 A2 Z1 Z2 : Array Value}
    (h1 : op1.guard = none) (o1 : op1.op = .alloc t1) (d1 : op1.dst = some p1) (h2 : op2.guard = none) (o2 : op2.op = .alloc t2) (d2 : op2.dst = some p2) (h3 : op3.guard = none) (o3 : op3.op = .store t1 (.tmp p1) (.tmp x1)) (d3 : op3.dst = none) (h4 : op4.guard = none) (o4 : op4.op = .store t2 (.tmp p2) (.tmp x2)) (d4 : op4.dst = none)
    (z1 : ∀ w, (zeroValue t1).run P w = .ok (.agg Z1) w) (z2 : ∀ w, (zeroValue t2).run P w = .ok (.agg Z2) w) (l1 : p1 < a.tmps.size) (l2 : p2 < a.tmps.size) (hne : p2 ≠ p1) (n1 : p1 ≠ x1) (n2 : p2 ≠ x1) (n3 : p1 ≠ x2) (n4 : p2 ≠ x2) (hx1 : a.tmps.getD x1 undef = .agg A1) (hx2 : a.tmps.getD x2 undef = .agg A2)
    (s1 : A1.size = Z1.size) (s2 : A2.size = Z2.size) (i1 : (P.info? t1).map (·.size) = some A1.size) (i2 : (P.info? t2).map (·.size) = some A2.size) (c1 : A1.all (·.oneCell') = true) (c2 : A2.all (·.oneCell') = true)
    (h : ∀ g1 g2 w', w0.heap.size ≤ g1 → w0.heap.size ≤ g2 → g1 ≠ g2 → (∀ p ∈ l, p.1 ≠ g1) → (∀ p ∈ l, p.1 ≠ g2) → Kp ((g2, A2, t2) :: (g1, A1, t1) :: l) w0 w' → wpList P ops Q rest ((a.put (some p1) (.pointer (some ⟨g1, 0, none⟩))).put (some p2) (.pointer (some ⟨g2, 0, none⟩))) w') :
    wpList P ops Q (op1 :: op2 :: op3 :: op4 :: rest) a w := by
  have hlt := fun p (hp : p ∈ l) => (hK.1 p hp).lt
  have k2 := (hK.alloc Z1 t1).alloc Z2 t2
  refine wpList_alloc7 h1 t1 o1 z1 (wpList_alloc7 h2 t2 o2 z2 ?_)
  rw [World.size_alloc] at k2 ⊢
  rw [d1, d2]
  have hw := hK.2.size
  generalize (w.alloc (.cells Z1 t1)).alloc (.cells Z2 t2) = W at *
  generalize w.heap.size = g at *
  have e1 : ((a.put (some p1) (.pointer (some ⟨g, 0, none⟩))).put (some p2) (.pointer (some ⟨g + 1, 0, none⟩))).tmps.getD p1 undef = .pointer (some ⟨g, 0, none⟩) := by rw [getD_put_other _ _ _ _ hne, getD_put_same _ _ _ l1]
  have e2 : ((a.put (some p1) (.pointer (some ⟨g, 0, none⟩))).put (some p2) (.pointer (some ⟨g + 1, 0, none⟩))).tmps.getD p2 undef = .pointer (some ⟨g + 1, 0, none⟩) := getD_put_same _ _ _ (by rw [size_put]; exact l2)
  have e3 : ((a.put (some p1) (.pointer (some ⟨g, 0, none⟩))).put (some p2) (.pointer (some ⟨g + 1, 0, none⟩))).tmps.getD x1 undef = .agg A1 := by rw [getD_put_other _ _ _ _ n2, getD_put_other _ _ _ _ n1, hx1]
  have e4 : ((a.put (some p1) (.pointer (some ⟨g, 0, none⟩))).put (some p2) (.pointer (some ⟨g + 1, 0, none⟩))).tmps.getD x2 undef = .agg A2 := by rw [getD_put_other _ _ _ _ n4, getD_put_other _ _ _ _ n3, hx2]
  have h' := h g (g + 1)
  generalize (a.put (some p1) (.pointer (some ⟨g, 0, none⟩))).put (some p2) (.pointer (some ⟨g + 1, 0, none⟩)) = b at *
  have k3 : Kp ((g, Z1, t1) :: (g + 1, Z2, t2) :: l) w0 W := ⟨fun p hp => k2.1 p (by simp only [List.mem_cons] at hp ⊢; rcases hp with h | h | h <;> simp [h]), k2.2⟩
  have k4 := Kp.set (A' := A1) k3 (fun p hp => by
    rcases List.mem_cons.1 hp with rfl | hp
    · exact Nat.succ_ne_self g
    · exact Nat.ne_of_lt (hlt p hp)) hw s1
  have k5 : Kp ((g + 1, Z2, t2) :: (g, A1, t1) :: l) w0 (W.setCells g 0 A1.toList) := ⟨fun p hp => k4.1 p (by simp only [List.mem_cons] at hp ⊢; rcases hp with h | h | h <;> simp [h]), k4.2⟩
  have k6 := Kp.set (A' := A2) k5 (fun p hp => by
    rcases List.mem_cons.1 hp with rfl | hp
    · exact Nat.ne_of_lt (Nat.lt_succ_self g)
    · exact Nat.ne_of_lt (Nat.lt_succ_of_lt (hlt p hp))) (Nat.le_succ_of_le hw) s2
  refine wpList_plain h3 fun _ hq => wp_store_own t1 (.tmp p1) (.tmp x1) o3 g A1 e1 e3 (k3.at g Z1 t1 (.head _)) s1 i1 c1 d3 ?_
  have hq' := hq b (W.setCells g 0 A1.toList)
  refine hq' ?_
  refine wpList_plain h4 fun _ hr => wp_store_own t2 (.tmp p2) (.tmp x2) o4 (g + 1) A2 e2 e4 (k5.at (g + 1) Z2 t2 (.head _)) s2 i2 c2 d4 ?_
  exact hr b _ (h' _ hw (Nat.le_succ_of_le hw) (Nat.ne_of_lt (Nat.lt_succ_self g)) (fun p hp => Nat.ne_of_lt (hlt p hp)) (fun p hp => Nat.ne_of_lt (Nat.lt_succ_of_lt (hlt p hp))) k6)
theorem wp_copy_at {P : Program} {o : Oper} {a : Act} {w : World} {K : Act → World → Prop} {Q : Exit → Act → World → Prop} (d s : Operand) (dT sT : TypeId)
    (ho : o.op = .call { callee := .builtin .copy, args := #[d, s], argTypes := #[dT, sT] }) (elem : TypeId) (hu : P.underlying dT = some (.slice elem)) (hsz : (P.info? elem).map (·.size) = some 1)
    (g og dLen dCap b ob sLen sCap : Nat) (hd : a.eval d = .slice (some ⟨g, og, none⟩) dLen dCap) (hs : a.eval s = .slice (some ⟨b, ob, none⟩) sLen sCap)
    {A : Array Value} {t : TypeId} (hg : Own w g A t) (cs : List Value) (hS : w.rangeAt b ob cs) (hn : cs.length = Nat.min sLen dLen) (hfit : og + cs.length ≤ A.size) (h1 : ∀ v ∈ cs, v.oneCell' = true)
    (h : K (a.put o.dst (goInt cs.length)) (w.setRow g (A.toList.take og ++ cs ++ A.toList.drop (og + cs.length)).toArray)) : o.wp P a w K Q := by
  have hrun := run_copy_row (P := P) w dT sT o.type elem g og dLen dCap ⟨b, ob, none⟩ sLen sCap A t cs hu hsz hg hn (fun j v hv => by rw [Addr.add_mid]; exact hS j v hv) hfit h1
  unfold Oper.wp
  simp only [List.append_assoc] at h hrun
  simp [execOp, ho, resolve, invoke, builtin, hd, hs, hrun, Result.andThen]
  exact h
theorem toList_at (f : Nat → Nat) (j : Nat) (hj : j < 64) : (B64 f).toList[j]? = some (.int .u8 (f j : Int)) := by
  rw [Array.getElem?_toList]; exact B64_at f j hj
theorem toList_at32 (f : Nat → Nat) (j : Nat) (hj : j < 32) : (B32 f).toList[j]? = some (.int .u8 (f j : Int)) := by
  rw [Array.getElem?_toList]; exact B32_at f j hj
theorem two_byte_lo {x y i : Nat} (hx : x < R256) (hi : i < 32) : bdig (two x y) i = bdig x i := by
  rw [← bdig_lo _ i hi, two_lo hx]
theorem two_byte_hi {x y i : Nat} (hx : x < R256) : bdig (two x y) (32 + i) = bdig y i := by
  rw [← bdig_hi, two_hi hx]
theorem bdig_zero (i : Nat) : bdig 0 i = 0 := by unfold bdig; rw [Nat.zero_div]
theorem join_lo {x : Nat} (hx : x < R256) : ((B64 fun _ => 0).toList.take 0 ++ (B32 (bdig x)).toList ++ (B64 fun _ => 0).toList.drop (0 + (B32 (bdig x)).toList.length)).toArray = B64 (bdig (two x 0)) := by
  apply Array.ext_getElem?
  intro i
  rw [B32_len0, List.take_zero, List.nil_append, Nat.zero_add, List.getElem?_toArray]
  by_cases hi : i < 64
  · rw [B64_at _ i hi]
    by_cases h : i < 32
    · rw [List.getElem?_append_left (by rw [B32_len0]; exact h), toList_at32 _ i h, two_byte_lo hx h]
    · obtain ⟨j, rfl⟩ : ∃ j, i = 32 + j := ⟨i - 32, by omega⟩
      rw [List.getElem?_append_right (by rw [B32_len0]; omega), B32_len0, List.getElem?_drop, toList_at _ _ (by omega), two_byte_hi hx, bdig_zero]
  · rw [List.getElem?_eq_none (by rw [List.length_append, List.length_drop, B32_len0, Array.length_toList, B64_size]; omega), Array.getElem?_eq_none (by rw [B64_size]; omega)]
theorem join_hi {x : Nat} (hx : x < R256) (y : Nat) : ((B64 (bdig (two x 0))).toList.take 32 ++ (B32 (bdig y)).toList ++ (B64 (bdig (two x 0))).toList.drop (32 + (B32 (bdig y)).toList.length)).toArray = B64 (bdig (two x y)) := by
  apply Array.ext_getElem?
  intro i
  have hl : ((B64 (bdig (two x 0))).toList.take 32).length = 32 := by rw [List.length_take, Array.length_toList, B64_size]; rfl
  rw [B32_len0, List.getElem?_toArray]
  by_cases hi : i < 64
  · rw [B64_at _ i hi, List.getElem?_append_left (by rw [List.length_append, hl, B32_len0]; omega)]
    by_cases h : i < 32
    · rw [List.getElem?_append_left (by rw [hl]; exact h), List.getElem?_take, if_pos h, toList_at _ i hi, two_byte_lo hx h, two_byte_lo hx h]
    · obtain ⟨j, rfl⟩ : ∃ j, i = 32 + j := ⟨i - 32, by omega⟩
      rw [List.getElem?_append_right (by rw [hl]; omega), hl, Nat.add_sub_cancel_left, toList_at32 _ j (by omega), two_byte_hi hx]
  · rw [List.getElem?_eq_none (by rw [List.length_append, List.length_append, List.length_drop, hl, B32_len0, Array.length_toList, B64_size]; omega), Array.getElem?_eq_none (by rw [B64_size]; omega)]
theorem join32 (x : Nat) : ((B32 fun _ => 0).toList.take 0 ++ (B32 (bdig x)).toList ++ (B32 fun _ => 0).toList.drop (0 + (B32 (bdig x)).toList.length)).toArray = B32 (bdig x) := by
  rw [B32_len0, List.take_zero, List.nil_append, List.drop_eq_nil_of_le (by rw [B32_len0]; decide), List.append_nil]
def clamp (a : Nat) : Nat := vb (upd (upd (bdig a) 0 (bdig a 0 / 8 * 8)) 31 (bdig a 31 % 64 + 64)) 32
theorem clamp_bytes (a i : Nat) (hi : i < 32) : bdig (clamp a) i = upd (upd (bdig a) 0 (bdig a 0 / 8 * 8)) 31 (bdig a 31 % 64 + 64) i := by
  unfold clamp
  refine bdig_vb _ 32 (fun j _ => ?_) i hi
  by_cases h : j = 31
  · subst h; rw [upd_same]; omega
  · rw [upd_other _ _ _ _ h]
    by_cases h0 : j = 0
    · subst h0; rw [upd_same]; have := bdig_lt a 0; omega
    · rw [upd_other _ _ _ _ h0]; exact bdig_lt a j
theorem clamp_lt (a : Nat) : clamp a < R256 := by
  rw [R256_pow]
  unfold clamp
  refine vb_lt _ 32 fun j _ => ?_
  by_cases h : j = 31
  · subst h; rw [upd_same]; omega
  · rw [upd_other _ _ _ _ h]
    by_cases h0 : j = 0
    · subst h0; rw [upd_same]; have := bdig_lt a 0; omega
    · rw [upd_other _ _ _ _ h0]; exact bdig_lt a j
theorem B32_clamp (a : Nat) : B32 (upd (upd (bdig a) 0 (bdig a 0 / 8 * 8)) 31 (bdig a 31 % 64 + 64)) = B32 (bdig (clamp a)) := B32_ext fun i hi => (clamp_bytes a i hi).symm
theorem low_bits : ∀ x : Fin 256, bits .andNot .u8 (x.val : Int) 7 = ((x.val / 8 * 8 : Nat) : Int) := by decide +kernel
theorem top_off : ∀ x : Fin 256, bits .andNot .u8 (x.val : Int) 128 = ((x.val % 128 : Nat) : Int) := by decide +kernel
theorem top_on : ∀ x : Fin 128, bits .or .u8 (x.val : Int) 64 = ((x.val % 64 + 64 : Nat) : Int) := by decide +kernel
end Go.Proofs.YtgibllaifnnfkaaGreatDoor
namespace Go.Proofs.YtgibllaifnnfkaaGreatDoor
open Go Go.ChangeShapes Go.WideShapes Go.ChangeAt Go.RowKit
def TS (w : World) : Prop := TC w ∧ TO w ∧ H.Tabs w
theorem low : Low TS where
  keep := fun _ _ h hB => ⟨h.1.keep hB, h.2.1.keep hB, h.2.2.below hB⟩
  wsum := fun a len cap ms w hT hR hn => by rw [← dig_dn]; exact H.sum_any a len cap ms w hR hT.2.2 hn
  swide := fun a ha w hT => swide_fn a ha w hT.2.1
  scheck := fun a ha w hT => scheck_any a ha w hT.2.1
  smuladd := fun a b c ha hb hc w hT => smuladd_any a b c ha hb hc w hT.2.1
  add := fun P Q w hT => crv.add P Q w hT.1
  add_not := fun a b ha hb h w hT => crv.add_not a b ha hb h w hT.1
  mul := fun n hn P w hT => crv.mul n hn P w hT.1
  mul_not := fun n a hn ha h w hT => crv.mul_not n a hn ha h w hT.1
  base := fun n hn w hT => crv.base n hn w hT.1
theorem cellsSN : Tryz.prog.cellsOf 83 = 4 := by kernel_rfl
theorem num_listedS {W : World} {name : String} {a b c d : Int} {rest : List (String × DataW Unit)} {g : Nat} (hg : Tryz.prog.globalNamed name = some g) (hty : (Tryz.prog.globals[g]?).map (·.type) = some 83)
    (h : laidMet Tryz.prog ((name, .agg [.lit (.int .u64 a), .lit (.int .u64 b), .lit (.int .u64 c), .lit (.int .u64 d)]) :: rest) W) :
    W.var? Tryz.prog name = some #[.int .u64 a, .int .u64 b, .int .u64 c, .int .u64 d] := by
  obtain ⟨ps, ⟨g', t', cs, fuel, p, q, hg', ht', hvar, hd, _, _⟩, _⟩ := h
  obtain rfl := Option.some.inj (hg.symm.trans hg')
  obtain rfl := Option.some.inj (hty.symm.trans ht')
  obtain ⟨xs, n, -, hx, hl, hxl, hf⟩ := DataW.trod_array Tryz.underlying83 hd
  rw [cellsSN] at hl
  obtain ⟨c0, c1, c2, c3, e⟩ := list4 hl
  obtain ⟨x0, x1, x2, x3, rfl⟩ := list4 hxl
  rw [e, cellsU64] at hf
  have h0 := hf 0 (by decide)
  have h1 := hf 1 (by decide)
  have h2 := hf 2 (by decide)
  have h3 := hf 3 (by decide)
  obtain ⟨n0, hn0, rfl, -⟩ := DataW.trod_int Tryz.underlying52 h0
  obtain ⟨n1, hn1, rfl, -⟩ := DataW.trod_int Tryz.underlying52 h1
  obtain ⟨n2, hn2, rfl, -⟩ := DataW.trod_int Tryz.underlying52 h2
  obtain ⟨n3, hn3, rfl, -⟩ := DataW.trod_int Tryz.underlying52 h3
  simp at hx hn0 hn1 hn2 hn3
  obtain ⟨⟨rfl, rfl, rfl, rfl⟩, -⟩ := hx
  rw [hvar]
  have : cs = cs.toList.toArray := rfl
  rw [this, e, hn0, hn1, hn2, hn3]
theorem gOrder : Tryz.prog.globalNamed "codicil/scalar.order" = some 6 := by kernel_rfl
theorem gOrderType : (Tryz.prog.globals[6]?).map (·.type) = some 83 := by kernel_rfl
theorem to_of {W : World} {rest : List (String × DataW Unit)} (h : laidMet Tryz.prog (("codicil/scalar.order", Rows.laid_codicil_scalar_order) :: rest) W) : TO W := by
  have hv := num_listedS gOrder gOrderType h
  have c := World.var?_cell gOrder hv
  have c0 := c 0
  have c1 := c 1
  have c2 := c 2
  have c3 := c 3
  refine ⟨World.block_lt_of_cell? W _ c0, fun k hk => ?_⟩
  rcases k with _ | _ | _ | _ | k
  · exact c0
  · exact c1
  · exact c2
  · exact c3
  · omega
theorem gStart : Tryz.prog.globalNamed "codicil/wide.start" = some 1 := by kernel_rfl
theorem gStartType : (Tryz.prog.globals[1]?).map (·.type) = some 80 := by kernel_rfl
theorem gRounds : Tryz.prog.globalNamed "codicil/wide.rounds" = some 7 := by kernel_rfl
theorem gRoundsType : (Tryz.prog.globals[7]?).map (·.type) = some 109 := by kernel_rfl
theorem cellsA8 : Tryz.prog.cellsOf 80 = 8 := by kernel_rfl
theorem cellsW80 : Tryz.prog.cellsOf 109 = 80 := by kernel_rfl
theorem start_data : (Rows.laid_codicil_wide_start : DataW Unit) = Lib.tabData .u64 (H.stWords H.start) := rfl
theorem rounds_data : (Rows.laid_codicil_wide_rounds : DataW Unit) = Lib.tabData .u64 H.kays := rfl
theorem tabs_of {W : World} (h0 : laidMet Tryz.prog [("codicil/wide.start", Rows.laid_codicil_wide_start)] W) (h1 : laidMet Tryz.prog [("codicil/wide.rounds", Rows.laid_codicil_wide_rounds)] W) : H.Tabs W := by
  have t0 : Lib.TabIs Tryz.prog W "codicil/wide.start" .u64 (H.stWords H.start) := by
    refine Lib.tabIs_of_head (rest := []) gStart gStartType Tryz.underlying80 Tryz.underlying52 cellsU64 cellsA8 ?_
    rw [← start_data]; exact h0
  have t1 : Lib.TabIs Tryz.prog W "codicil/wide.rounds" .u64 H.kays := by
    refine Lib.tabIs_of_head (rest := []) gRounds gRoundsType Tryz.underlying109 Tryz.underlying52 cellsU64 cellsW80 ?_
    rw [← rounds_data]; exact h1
  have c0 := fun i hi => t0.cell gStart i hi
  have c1 := fun i hi => t1.cell gRounds i hi
  refine ⟨⟨?_, fun i hi => c1 i hi⟩, ?_, ?_⟩
  · exact World.block_lt_of_cell? W _ (c1 0 (by decide))
  · exact World.block_lt_of_cell? W _ (c0 0 (by decide))
  · intro j v hv
    have hj : j < 8 := by
      have := (List.getElem?_eq_some_iff.1 hv).1
      simpa [H.stArr] using this
    rw [Nat.zero_add, c0 j hj, ← hv]
    rcases j with _ | _ | _ | _ | _ | _ | _ | _ | j
    all_goals first | rfl | omega
theorem ts_of {W : World} (h : laidMet Tryz.prog [("codicil/field.prime", Rows.laid_codicil_field_prime), ("codicil/field.turn", Rows.laid_codicil_field_turn), ("codicil/curve.nought", Rows.laid_codicil_curve_nought), ("codicil/curve.base", Rows.laid_codicil_curve_base), ("codicil/curve.d", Rows.laid_codicil_curve_d), ("codicil/wide.start", Rows.laid_codicil_wide_start), ("codicil/wide.rounds", Rows.laid_codicil_wide_rounds), ("codicil/scalar.order", Rows.laid_codicil_scalar_order)] W) : TS W := by
  have h1 : laidMet Tryz.prog [("codicil/field.prime", Rows.laid_codicil_field_prime), ("codicil/field.turn", Rows.laid_codicil_field_turn), ("codicil/curve.nought", Rows.laid_codicil_curve_nought), ("codicil/curve.base", Rows.laid_codicil_curve_base), ("codicil/curve.d", Rows.laid_codicil_curve_d)] W := laidMet.filter (fun p => p.1 == "codicil/field.prime" || p.1 == "codicil/field.turn" || p.1 == "codicil/curve.nought" || p.1 == "codicil/curve.base" || p.1 == "codicil/curve.d") h
  have h2 : laidMet Tryz.prog [("codicil/scalar.order", Rows.laid_codicil_scalar_order)] W := laidMet.filter (fun p => p.1 == "codicil/scalar.order") h
  have h3 : laidMet Tryz.prog [("codicil/wide.start", Rows.laid_codicil_wide_start)] W := laidMet.filter (fun p => p.1 == "codicil/wide.start") h
  have h4 : laidMet Tryz.prog [("codicil/wide.rounds", Rows.laid_codicil_wide_rounds)] W := laidMet.filter (fun p => p.1 == "codicil/wide.rounds") h
  exact ⟨tc_of h1, to_of h2, tabs_of h3 h4⟩
def IsRow (k : IntKind) (w : World) (a : Option Addr) (len cap : Nat) (zs : List Int) : Prop :=
  (a = none ∧ len = 0 ∧ cap = 0 ∧ zs = []) ∨
  ∃ x, a = some x ∧ len ≤ cap ∧ cap ≤ maxLen ∧ zs.length = cap ∧ (∀ i, i < zs.length → w.cell? (x.add i) = some (.int k (zs.getD i 0))) ∧ ∀ n ∈ zs, (Lit.int k n).wf = true
theorem wf_u8 {n : Int} (h : (Lit.int .u8 n).wf = true) : 0 ≤ n ∧ n < 256 := by
  have := bounds_u8 h; omega
theorem bytesV_of_row {w : World} {a : Option Addr} {len cap : Nat} {zs : List Int} (h : IsRow .u8 w a len cap zs) : H.BytesV w a len cap (zs.take len) := by
  rcases h with ⟨rfl, rfl, rfl, rfl⟩ | ⟨x, rfl, hl, hm, hz, hcell, hwz⟩
  · exact ⟨rfl, Nat.le_refl _, by decide, fun x hx => by simp at hx, fun hp => absurd hp (by decide)⟩
  · refine ⟨by simp; omega, hl, hm, fun x hx => wf_u8 (hwz x (List.mem_of_mem_take hx)), fun hp => ?_⟩
    obtain ⟨b, off, spot⟩ := x
    have hc := hcell 0 (by omega)
    have hspot : spot = none := by simpa [Addr.add] using World.cell?_spot hc
    subst hspot
    refine ⟨b, off, rfl, fun j v hv => ?_⟩
    have hj : j < len := by
      have := (List.getElem?_eq_some_iff.1 hv).1
      simp [H.u8s] at this; omega
    have h1 := hcell j (by omega)
    rw [Addr.add_mid] at h1
    rw [h1, ← hv]
    have hjz : j < zs.length := by omega
    simp [H.u8s, hj, hjz, List.getD]
theorem nil_of_row {w : World} {a : Option Addr} {len cap : Nat} {zs : List Int} (h : IsRow .u8 w a len cap zs) : a = none → cap = 0 := fun e => by
  rcases h with ⟨_, _, h, _⟩ | ⟨x, rfl, _⟩
  · exact h
  · cases e
theorem isRow_of {H : Type} {enc : TypeId × Value → H} {W : World} {base : Nat} {held : Bool} {a : Option Addr} {len cap : Nat} {d : DataW H} {p : List MemPlace}
    (h : DataW.Trod enc Tryz.prog W base (fun _ => true) held 23 (Value.slice a len cap) d p) : ∃ zs, IsRow .u8 W a len cap zs := by
  obtain ⟨fuel, hf⟩ := h
  rcases open_ints Tryz.underlying23 Tryz.underlying5 (by kernel_rfl) hf with ⟨hcs, _⟩ | ⟨x, l, c, zs, hcs, _, hl, hm, hz, _, hcell, hwz⟩
  · simp [Value.cells] at hcs
    obtain ⟨rfl, rfl, rfl⟩ := hcs
    exact ⟨[], .inl ⟨rfl, rfl, rfl, rfl⟩⟩
  · simp [Value.cells] at hcs
    obtain ⟨rfl, rfl, rfl⟩ := hcs
    exact ⟨zs, .inr ⟨_, rfl, hl, hm, by simpa using hz, hcell, hwz⟩⟩
theorem txt_of_row {w : World} {a : Option Addr} {len cap : Nat} {zs : List Int} (h : IsRow .u8 w a len cap zs) : len = (zs.take len).length ∧ Txt w a cap (zs.take len) := by
  have hv := bytesV_of_row h
  have e := hv.1
  exact ⟨e, by rw [← e]; exact hv, nil_of_row h⟩
end Go.Proofs.YtgibllaifnnfkaaGreatDoor
