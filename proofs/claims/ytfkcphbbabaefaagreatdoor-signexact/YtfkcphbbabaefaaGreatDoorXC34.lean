/- Of the texts HK, SG0: what the card of this claim reaches. -/
import Derived.Test.YtfkcphbbabaefaaGreatDoorXC33
import Derived.Test.YtfkcphbbabaefaaGreatDoorXC1
import Derived.Maps.AppendAt
import Derived.Laws.AppendOwnNone
import Derived.Test.YtfkcphbbabaefaaGreatDoorXC3
import Derived.Test.YtfkcphbbabaefaaGreatDoorXC16
namespace Go.Proofs.YtfkcphbbabaefaaGreatDoor.H
open Go.RowKit
theorem BytesV.take {w : World} {a : Option Addr} {len cap : Nat} {m : List Int} (h : BytesV w a len cap m) (q : Nat) (hq : q ≤ len) : BytesV w a q cap (m.take q) := by
  obtain ⟨h1, h2, h3, h4, h5⟩ := h
  refine ⟨by simp; omega, by omega, h3, fun x hx => h4 x (List.mem_of_mem_take hx), fun hp => ?_⟩
  obtain ⟨b, off, e, hr⟩ := h5 (by omega)
  exact ⟨b, off, e, by simpa using range_part hr 0 q⟩
theorem BytesV.drop {w : World} {a : Option Addr} {len cap : Nat} {m : List Int} (h : BytesV w a len cap m) (q : Nat) (hq : q ≤ len) : BytesV w (cutAddr a cap q) (len - q) (cap - q) (m.drop q) := by
  obtain ⟨h1, h2, h3, h4, h5⟩ := h
  refine ⟨by simp; omega, by omega, by omega, fun x hx => h4 x (List.mem_of_mem_drop hx), fun hp => ?_⟩
  obtain ⟨b, off, e, hr⟩ := h5 (by omega)
  refine ⟨b, off + q, ?_, ?_⟩
  · rw [cutAddr, if_neg (by omega), e]; simp [Addr.add_mid]
  · have := range_part hr q (m.drop q).length
    rwa [List.take_length] at this
theorem _root_.Go.Proofs.YtfkcphbbabaefaaGreatDoor.Own.grown {w w' : World} {b g : Nat} {A : Array Value} {t : TypeId} (h : Own w b A t) (hg : w.grownBy w' (some g)) (hb : b ≠ g) : Own w' b A t := by
  unfold Own; rw [hg.block b h.lt (by simpa using hb)]; exact h
theorem ShaAt.grown {w w' : World} {g b : Nat} {l : List Int} (h : ShaAt w b l) (hg : w.grownBy w' (some g)) (hb : b ≠ g) : ShaAt w' b l := by
  obtain ⟨bl, tl, htl, btl, ho, hrest⟩ := h
  exact ⟨bl, tl, htl, btl, ho.grown hg hb, hrest⟩
theorem bel {w a b : World} (h : Below w.heap.size w a) (k : Below a.heap.size a b) : Below w.heap.size w b := h.trans (k.mono h.size)
theorem belg {w a b : World} {g : Nat} (h : Below w.heap.size w a) (k : a.grownBy b (some g)) (hg : w.heap.size ≤ g) : Below w.heap.size w b := below_grown h k h.size hg
def OwnBytes (w : World) (base : Nat) (v : Value) (xs : List Int) : Prop := w.ownsRow base 5 1 v xs.length (u8s xs)
theorem OwnBytes.form {w : World} {base : Nat} {v : Value} {xs : List Int} (h : OwnBytes w base v xs) (hx : Bys xs) : ∃ a cap, v = .slice a xs.length cap ∧ BytesV w a xs.length cap xs := by
  obtain ⟨h1, ⟨h2, h3⟩ | ⟨g, cap, cur, h2, h3, h4, h5, h6, h7, h8⟩⟩ := h
  · obtain rfl := List.eq_nil_of_length_eq_zero h3
    exact ⟨none, 0, h2, rfl, Nat.le_refl _, by decide, fun x hx => by simp at hx, fun hp => absurd hp (by decide)⟩
  · refine ⟨some ⟨g, 0, none⟩, cap, h2, rfl, h5, h6, hx, fun _ => ⟨g, 0, rfl, fun j v hv => ?_⟩⟩
    rw [Nat.zero_add, cell_of_row w g j cur 5 (0, 0) h4, ← hv, ← h8]
    have hj : j < xs.length := by
      have := (List.getElem?_eq_some_iff.1 hv).1
      simpa [u8s] using this
    rw [List.getElem?_take, if_pos (by omega)]; simp
theorem OwnBytes.grown {w w' : World} {base g : Nat} {v : Value} {xs : List Int} (h : OwnBytes w base v xs) (hg : w.grownBy w' (some g)) (hb : g < base) : OwnBytes w' base v xs := by
  obtain ⟨h1, h2 | ⟨g', cap, cur, h2, h3, h4, h5⟩⟩ := h
  · exact ⟨h1, .inl h2⟩
  · refine ⟨h1, .inr ⟨g', cap, cur, h2, h3, ?_, h5⟩⟩
    rw [hg.block g' (Array.getElem?_eq_some_iff.1 h4).1 (by simp; omega)]; exact h4
theorem OwnBytes.below {w w' : World} {base : Nat} {v : Value} {xs : List Int} (h : OwnBytes w base v xs) (hB : Below w.heap.size w w') : OwnBytes w' base v xs := by
  obtain ⟨h1, h2 | ⟨g', cap, cur, h2, h3, h4, h5⟩⟩ := h
  · exact ⟨h1, .inl h2⟩
  · refine ⟨h1, .inr ⟨g', cap, cur, h2, h3, ?_, h5⟩⟩
    rw [hB.block g' (Array.getElem?_eq_some_iff.1 h4).1]; exact h4
theorem OwnBytes.base_le {w : World} {base g : Nat} {v : Value} {xs : List Int} (h : OwnBytes w base v xs) (hv : v.ownBlock = some g) : base ≤ g := by
  obtain ⟨h1, ⟨rfl, _⟩ | ⟨g', cap, cur, rfl, h3, _⟩⟩ := h
  · simp [Value.ownBlock] at hv
  · have : g' = g := by simpa [Value.ownBlock] using hv
    omega
theorem ownBytes_nil (w : World) (base : Nat) : OwnBytes w base (.slice none 0 0) [] := ⟨rfl, .inl ⟨rfl, rfl⟩⟩
theorem wpList_append_bytes {w : World} {ops : Array Oper} {rest : List Oper} {o : Oper} {a : Act} {Q : Exit → Act → World → Prop} (hgd : o.guard = none) (s x : Operand)
    (ho : o.op = .call { callee := .builtin .append, args := #[s, x], argTypes := #[23, 23] })
    (base : Nat) (v : Value) (xs : List Int) (hs : a.eval s = v) (hown : OwnBytes w base v xs) (bx : Bys xs)
    (sa : Option Addr) (len cap : Nat) (m : List Int) (hx : a.eval x = .slice sa len cap) (hm : BytesV w sa len cap m) (hn : sa = none → cap = 0)
    (hl : xs.length + m.length ≤ 1099511627776) (hbase : base ≤ w.heap.size)
    (h : ∀ a' cap' w', OwnBytes w' base (.slice a' (xs.length + m.length) cap') (xs ++ m) → w.grownBy w' v.ownBlock → BytesV w' a' (xs.length + m.length) cap' (xs ++ m) → wpList Tryz.prog ops Q rest (a.put o.dst (.slice a' (xs.length + m.length) cap')) w') :
    wpList Tryz.prog ops Q (o :: rest) a w := by
  have hb : Bys (xs ++ m) := fun y hy => (List.mem_append.1 hy).elim (bx y) (hm.2.2.2.1 y)
  obtain ⟨i, hi, hz, hsize, hby⟩ : ∃ i, Tryz.prog.info? 5 = some i ∧ i.zero = some (.int .u8 0) ∧ i.size = 1 ∧ i.bytes = 1 := by
    have := info5
    cases hq : Tryz.prog.info? 5 with
    | none => simp [hq] at this
    | some i => exact ⟨i, rfl, by simp [hq] at this; exact this⟩
  have close : ∀ v' w', OwnBytes w' base v' (xs ++ m) → w.grownBy w' v.ownBlock → wpList Tryz.prog ops Q rest (a.put o.dst v') w' := fun v' w' h1 h2 => by
    obtain ⟨a', cap', rfl, hv⟩ := h1.form hb
    rw [List.length_append] at h1 hv ⊢
    exact h a' cap' w' h1 h2 hv
  cases sa with
  | none =>
    obtain rfl := hn rfl
    have h0 : len = 0 := by
      rcases Nat.eq_zero_or_pos len with h | h
      · exact h
      · obtain ⟨b, off, e, _⟩ := hm.2.2.2.2 h; cases e
    subst h0
    have : m = [] := List.eq_nil_of_length_eq_zero hm.1.symm
    subst this
    refine wpList_append_own_none hgd s x 23 ho base 5 i 1 Tryz.underlying23 hi v xs.length (u8s xs) hs hown hx ?_
    exact close v w (by rw [List.append_nil]; exact hown) ⟨rfl, rfl, rfl, Nat.le_refl _, fun _ _ _ => rfl⟩
  | some ad =>
    refine wpList_append_own_at (P := Tryz.prog) w hgd s x 23 ho base 5 i (.int .u8 0) 1 1 Tryz.underlying23 hi hz hsize hby rfl (by decide) v xs.length (u8s xs) hs hown ad len cap (u8s m) hx (by rw [u8s, List.length_map, ← hm.1]; omega) (fun j u hu => ?_) (u8s_one _) (by rw [hm.1]; unfold maxLen; omega) (by rw [hm.1]; omega) hbase ?_
    · have hj : j < m.length := by
        have := (List.getElem?_eq_some_iff.1 hu).1
        simpa [u8s] using this
      obtain ⟨b, off, e, hr⟩ := hm.2.2.2.2 (by rw [hm.1]; omega)
      simp only [Option.some.injEq] at e
      rw [e, Addr.add_mid]; exact hr j u hu
    · intro v' w' h1 h2 _ _
      refine close v' w' ?_ h2
      have e : len = m.length := hm.1
      subst e
      unfold OwnBytes
      rw [List.length_append, u8s, List.map_append]; exact h1
def slv (p : Option Addr × Nat × List Int) : Value := .slice p.1 p.2.2.length p.2.1
theorem rowsV_new (w : World) (ps : List (Option Addr × Nat × List Int)) (h : ∀ p ∈ ps, BytesV w p.1 p.2.2.length p.2.1 p.2.2 ∧ (p.1 = none → p.2.1 = 0)) (hl : ps.length ≤ maxLen) :
    RowsV (w.alloc (.cells (ps.map slv).toArray 23)) (some ⟨w.heap.size, 0, none⟩) ps.length ps.length (ps.map (·.2.2)) := by
  refine ⟨by simp, Nat.le_refl _, hl, fun _ => ⟨_, _, rfl, fun i m hm => ?_⟩⟩
  rw [List.getElem?_map] at hm
  cases hp : ps[i]? with
  | none => simp [hp] at hm
  | some p =>
    rw [hp] at hm
    obtain rfl := Option.some.inj hm
    obtain ⟨h1, h2⟩ := h p (List.mem_of_getElem? hp)
    refine ⟨p.1, p.2.1, ?_, h1.below ((Below.refl _ _).alloc (Nat.le_refl _) _), h2⟩
    rw [Nat.zero_add, cell_of_row _ w.heap.size i _ 23 (0, 0) (heap_alloc_last w _)]
    simp [hp, slv]
theorem alloc_below (w : World) (o : Obj) : Below w.heap.size w (w.alloc o) := (Below.refl _ _).alloc (Nat.le_refl _) _
end Go.Proofs.YtfkcphbbabaefaaGreatDoor.H
namespace Go.Proofs.YtfkcphbbabaefaaGreatDoor.H
open Go.RowKit
set_option maxRecDepth 100000 in
theorem twin_any (a : Option Addr) (cap : Nat) (m : List Int) (w : World) (hm : BytesV w a m.length cap m) (hcap : a = none → cap = 0) (hl : m.length ≤ 1000000) :
    Calls Tryz.prog 5 #[.slice a m.length cap] w fun e w' => ∃ a' cap', e = .returned (.slice a' m.length cap') ∧ OwnBytes w' w.heap.size (.slice a' m.length cap') m ∧ BytesV w' a' m.length cap' m ∧ w.grownBy w' none := by
  go_enter Tryz.func5, Tryz.ntmps5
  go_wp2_with (at_builtin; refine wpList_append_bytes (by rfl) (.tmp 4) (.tmp 5) (by rfl) w.heap.size (.slice none 0 0) [] (by rfl) (ownBytes_nil _ _) (fun x hx => by simp at hx) a m.length cap m (by rfl) hm hcap (by simp; omega) (Nat.le_refl _) ?_; intro a1 cap1 w1 hO1 hg1 hV1; simp only [List.length_nil, Nat.zero_add, List.nil_append] at hO1 hV1 ⊢)
  go_ret
  exact ⟨a1, cap1, rfl, hO1, hV1, hg1⟩
theorem BytesV.at {w : World} {a : Option Addr} {len cap : Nat} {m : List Int} (h : BytesV w a len cap m) (k : Nat) (hk : k < len) : ∃ b off, a = some ⟨b, off, none⟩ ∧ w.cell? ⟨b, off + k, none⟩ = some (.int .u8 (m.getD k 0)) := by
  obtain ⟨b, off, e, hr⟩ := h.2.2.2.2 (by omega)
  have : k < m.length := by rw [← h.1]; exact hk
  exact ⟨b, off, e, hr k _ (by simp [u8s, this, List.getD])⟩
set_option maxRecDepth 100000 in
theorem bytes_any (a a' : Option Addr) (len cap cap' : Nat) (m : List Int) (w : World) (h1 : BytesV w a len cap m) (h2 : BytesV w a' len cap' m) :
    Calls Tryz.prog 11 #[.slice a len cap, .slice a' len cap'] w fun e w' => e = .returned (.bool true) ∧ Below w.heap.size w w' := by
  have hlM : len ≤ maxLen := Nat.le_trans h1.2.1 h1.2.2.1
  have hlm : (len : Int) ≤ 9223372036854775807 := by unfold maxLen at hlM; omega
  go_enter Tryz.func11, Tryz.ntmps11
  go_wp2_with fail
  go_loopw [5] (fun i wr => ∃ k : Nat, k ≤ len ∧ i = .int .i64 (k : Int) ∧ Below w.heap.size w wr) (fun i _ => len - (intOf i).toNat)
  case atStart => exact ⟨0, Nat.zero_le _, rfl, Below.refl _ _⟩
  case round =>
    obtain ⟨k, hk, rfl, hb⟩ := hrel
    by_cases hkl : k < len
    · have hki : (k : Int) < (len : Int) := by omega
      have hk0 : (0 : Int) ≤ (k : Int) := by omega
      obtain ⟨b, off, rfl, c1⟩ := (h1.below hb).at k hkl
      obtain ⟨b', off', rfl, c2⟩ := (h2.below hb).at k hkl
      generalize m.getD k 0 = x at *
      have hx : (x == x) = true := beq_self_eq_true x
      have hx' : (x != x) = false := by rw [bne, hx]; rfl
      go_wp2_with fail
      go_region
      go_wp2_with fail
      go_roundw
      case rel => exact ⟨k + 1, by omega, by go_num, hb.trans ((Below.refl _ _).drew)⟩
      case measure => simp [intOf]; omega
    · have hki : ¬ (k : Int) < (len : Int) := by omega
      go_wp2_with fail
      go_ret
      exact ⟨rfl, hb⟩
end Go.Proofs.YtfkcphbbabaefaaGreatDoor.H
namespace Go.Proofs.YtfkcphbbabaefaaGreatDoor
open Go Go.RowKit
def by32 (n : Nat) : List Int := (List.range 32).map fun i => (bdig n i : Int)
theorem by32_length (n : Nat) : (by32 n).length = 32 := by simp [by32]
theorem by32_bys (n : Nat) : H.Bys (by32 n) := fun x hx => by
  obtain ⟨i, -, rfl⟩ := List.mem_map.1 hx
  have := bdig_lt n i
  omega
theorem by32_u8s (n : Nat) : H.u8s (by32 n) = (B32 (bdig n)).toList := by
  unfold H.u8s by32 B32
  simp
theorem digest_bys (l : List Int) : H.Bys (H.digest l) := fun x hx => by
  unfold H.digest H.sumBytes at hx
  obtain ⟨y, -, hy⟩ := List.mem_flatMap.1 hx
  exact H.be8_bys y x hy
def dn (l : List Int) : Nat := vb (fun i => ((H.digest l).getD i 0).toNat) 64
theorem digest_at (l : List Int) (i : Nat) : 0 ≤ (H.digest l).getD i 0 ∧ (H.digest l).getD i 0 < 256 := by
  by_cases hi : i < (H.digest l).length
  · have e : (H.digest l).getD i 0 = (H.digest l)[i] := by simp [List.getD, hi]
    rw [e]
    exact digest_bys l _ (List.getElem_mem hi)
  · have e : (H.digest l).getD i 0 = 0 := by simp [List.getD, hi]
    rw [e]
    decide
theorem dn_byte (l : List Int) (i : Nat) (hi : i < 64) : (bdig (dn l) i : Int) = (H.digest l).getD i 0 := by
  have hb := digest_at l i
  unfold dn
  rw [bdig_vb _ 64 (fun j _ => by have := digest_at l j; omega) i hi]
  omega
theorem dn_lt (l : List Int) : dn l < R512 := by
  have h : R512 = 256 ^ 64 := by decide
  rw [h]
  exact vb_lt _ 64 fun i _ => by have := digest_at l i; omega
theorem dig_dn (l : List Int) : H.dig l = B64 (bdig (dn l)) := by
  apply Array.ext_getElem?
  intro i
  by_cases hi : i < 64
  · rw [B64_at _ i hi, dn_byte l i hi]
    have hl := H.digest_length l
    have hi' : i < (H.digest l).length := by omega
    simp [H.dig, H.u8s, List.getD, hi']
  · rw [Array.getElem?_eq_none (by rw [H.dig_size]; omega), Array.getElem?_eq_none (by rw [B64_size]; omega)]
theorem R256_pow : R256 = 256 ^ 32 := by decide
theorem bdig_lo (z j : Nat) (hj : j < 32) : bdig (z % R256) j = bdig z j := by
  unfold bdig
  rw [R256_pow, show (256 : Nat) ^ 32 = 256 ^ j * 256 ^ (32 - j) by rw [← Nat.pow_add]; congr 1; omega, Nat.mod_mul_right_div_self]
  rw [Nat.mod_mod_of_dvd]
  exact ⟨256 ^ (32 - j - 1), by rw [← Nat.pow_succ']; congr 1; omega⟩
theorem bdig_hi (z j : Nat) : bdig (z / R256) j = bdig z (32 + j) := by
  unfold bdig
  rw [R256_pow, Nat.div_div_eq_div_mul, ← Nat.pow_add]
def two (lo hi : Nat) : Nat := lo + R256 * hi
theorem two_lo {lo hi : Nat} (h : lo < R256) : two lo hi % R256 = lo := by
  unfold two
  rw [Nat.add_mul_mod_self_left, Nat.mod_eq_of_lt h]
theorem two_hi {lo hi : Nat} (h : lo < R256) : two lo hi / R256 = hi := by
  unfold two
  rw [Nat.add_mul_div_left _ _ (by decide), Nat.div_eq_of_lt h, Nat.zero_add]
theorem two_parts (z : Nat) : two (z % R256) (z / R256) = z := Nat.mod_add_div z R256
theorem two_lt {lo hi : Nat} (h : lo < R256) (h2 : hi < R256) : two lo hi < R512 := by
  unfold two
  rw [R512_eq]
  generalize R256 = R at *
  have h3 : R * (hi + 1) ≤ R * R := Nat.mul_le_mul_left _ h2
  rw [Nat.mul_add, Nat.mul_one] at h3
  omega
theorem lo_lt (z : Nat) : z % R256 < R256 := Nat.mod_lt _ (by decide)
theorem B64_lo {w : World} {b z : Nat} {t : TypeId} (h : Own w b (B64 (bdig z)) t) : w.rangeAt b 0 (B32 (bdig (z % R256))).toList := fun j v hv => by
  rw [Array.getElem?_toList] at hv
  have hj : j < 32 := by have := (Array.getElem?_eq_some_iff.1 hv).1; rwa [B32_size] at this
  rw [B32_at _ j hj, bdig_lo z j hj] at hv
  rw [Nat.zero_add, ← hv]
  exact h.cell (B64_at _ j (by omega))
theorem B64_hi {w : World} {b z : Nat} {t : TypeId} (h : Own w b (B64 (bdig z)) t) : w.rangeAt b 32 (B32 (bdig (z / R256))).toList := fun j v hv => by
  rw [Array.getElem?_toList] at hv
  have hj : j < 32 := by have := (Array.getElem?_eq_some_iff.1 hv).1; rwa [B32_size] at this
  rw [B32_at _ j hj, bdig_hi z j] at hv
  rw [← hv]
  exact h.cell (B64_at _ (32 + j) (by omega))
theorem bytes_at {w : World} {b o c n : Nat} (hc : 32 ≤ c) (hm : c ≤ maxLen) (h : w.rangeAt b o (B32 (bdig n)).toList) : H.BytesV w (some ⟨b, o, none⟩) 32 c (by32 n) :=
  ⟨(by32_length n).symm, hc, hm, by32_bys n, fun _ => ⟨b, o, rfl, by rw [by32_u8s]; exact h⟩⟩
theorem bytes_own {w : World} {b n : Nat} {t : TypeId} (h : Own w b (B32 (bdig n)) t) : H.BytesV w (some ⟨b, 0, none⟩) 32 32 (by32 n) := bytes_at (Nat.le_refl _) (by decide) h.range
theorem B64_le (f g : Nat → Nat) : 0 + (B64 f).size ≤ (B64 g).size := by rw [B64_size, B64_size]; exact Nat.le_refl _
theorem B64_list (f : Nat → Nat) : B64 f = (((List.range 64).map fun i => (f i : Int)).map (Value.int .u8)).toArray := by
  unfold B64; rw [List.map_map]; rfl
theorem infoU8s : (Tryz.prog.info? 5).map (·.size) = some 1 := by kernel_rfl
set_option maxRecDepth 100000 in
theorem B64_eq (x y : Nat) (hx : x < R512) (hy : y < R512) (w : World) : (Op.equalIn 10000 26 (.agg (B64 (bdig x))) (.agg (B64 (bdig y)))).run Tryz.prog w = .ok (decide (x = y)) w := by
  have h := run_equalIn_ints (P := Tryz.prog) w 9998 26 5 64 .u8 Tryz.underlying26 Tryz.underlying5 infoU8s ((List.range 64).map fun i => (bdig x i : Int)) ((List.range 64).map fun i => (bdig y i : Int)) (by simp) (by simp)
  rw [B64_list, B64_list]
  rw [h]
  congr 1
  by_cases e : x = y
  · subst e; simp
  · rw [decide_eq_false e]
    refine beq_eq_false_iff_ne.2 fun he => e ?_
    rw [← vb64 hx, ← vb64 hy]
    refine vb_congr 64 fun i hi => ?_
    have := congrArg (fun l : List Int => l[i]?) he
    simp [hi] at this
    exact_mod_cast this
theorem B64_same (x : Nat) (hx : x < R512) (w : World) : (Op.equalIn 10000 26 (.agg (B64 (bdig x))) (.agg (B64 (bdig x)))).run Tryz.prog w = .ok true w := by
  rw [B64_eq x x hx hx]; simp
def Txt (w : World) (a : Option Addr) (cap : Nat) (m : List Int) : Prop := H.BytesV w a m.length cap m ∧ (a = none → cap = 0)
theorem Txt.below {w w' : World} {a : Option Addr} {cap : Nat} {m : List Int} (h : Txt w a cap m) (hB : Below w.heap.size w w') : Txt w' a cap m := ⟨h.1.below hB, h.2⟩
structure Low (T : World → Prop) : Prop where
  keep : ∀ w w', T w → Below w.heap.size w w' → T w'
  wsum : ∀ a len cap ms w, T w → H.RowsV w a len cap ms → ms.flatten.length ≤ 16000000 → Calls Tryz.prog 19 #[.slice a len cap] w fun x w' => x = .returned (.agg (B64 (bdig (dn ms.flatten)))) ∧ Below w.heap.size w w'
  swide : ∀ a, a < R512 → ∀ w, T w → Calls Tryz.prog 18 #[.agg (B64 (bdig a))] w fun x w' => x = .returned (.agg (B32 (bdig (a % LL)))) ∧ Below w.heap.size w w'
  scheck : ∀ a, a < R256 → ∀ w, T w → Calls Tryz.prog 15 #[.agg (B32 (bdig a))] w fun x w' => x = .returned (.bool (decide (a < LL))) ∧ Below w.heap.size w w'
  smuladd : ∀ a b c, a < R256 → b < R256 → c < R256 → ∀ w, T w → Calls Tryz.prog 20 #[.agg (B32 (bdig a)), .agg (B32 (bdig b)), .agg (B32 (bdig c))] w fun x w' => x = .returned (.agg (B32 (bdig ((a * b + c) % LL)))) ∧ Below w.heap.size w w'
  check : ∀ (P : Pt E5) w, T w → Calls Tryz.prog 14 #[.agg (B32 (bdig (enc P)))] w fun x w' => x = .returned (.bool true) ∧ Below w.heap.size w w'
  check_not : ∀ a, a < R256 → (∀ P : Pt E5, enc P ≠ a) → ∀ w, T w → Calls Tryz.prog 14 #[.agg (B32 (bdig a))] w fun x w' => x = .returned (.bool false) ∧ Below w.heap.size w w'
  add : ∀ (P Q : Pt E5) w, T w → Calls Tryz.prog 30 #[.agg (B32 (bdig (enc P))), .agg (B32 (bdig (enc Q)))] w fun x w' => x = .returned (.tuple #[.agg (B32 (bdig (enc (P.add Q)))), .int .i64 0]) ∧ Below w.heap.size w w'
  add_not : ∀ a b, a < R256 → b < R256 → ((∀ P : Pt E5, enc P ≠ a) ∨ ∀ P : Pt E5, enc P ≠ b) → ∀ w, T w → Calls Tryz.prog 30 #[.agg (B32 (bdig a)), .agg (B32 (bdig b))] w fun x w' => x = .returned (.tuple #[.agg (B32 fun _ => 0), .int .i64 1]) ∧ Below w.heap.size w w'
  mul : ∀ n, n < R256 → ∀ (P : Pt E5) w, T w → Calls Tryz.prog 29 #[.agg (B32 (bdig n)), .agg (B32 (bdig (enc P)))] w fun x w' => x = .returned (.tuple #[.agg (B32 (bdig (enc (Pt.times n P)))), .int .i64 0]) ∧ Below w.heap.size w w'
  mul_not : ∀ n a, n < R256 → a < R256 → (∀ P : Pt E5, enc P ≠ a) → ∀ w, T w → Calls Tryz.prog 29 #[.agg (B32 (bdig n)), .agg (B32 (bdig a))] w fun x w' => x = .returned (.tuple #[.agg (B32 fun _ => 0), .int .i64 1]) ∧ Below w.heap.size w w'
  base : ∀ n, n < R256 → ∀ w, T w → Calls Tryz.prog 17 #[.agg (B32 (bdig n))] w fun x w' => x = .returned (.agg (B32 (bdig (enc (Pt.times n BP))))) ∧ Below w.heap.size w w'
section
variable {T : World → Prop} (F : Low T)
include F
theorem Low.wsumA {a : Option Addr} {len cap z : Nat} {ms : List (List Int)} {l : List Int} (hl : ms.flatten = l) (hz : dn l = z) (hn : l.length ≤ 16000000) (w : World) (hT : T w) (hR : H.RowsV w a len cap ms) : Calls Tryz.prog 19 #[.slice a len cap] w fun x w' => x = .returned (.agg (B64 (bdig z))) ∧ Below w.heap.size w w' := by
  subst hl; subst hz; exact F.wsum a len cap ms w hT hR hn
theorem Low.swideA {a c : Nat} (ha : a < R512) (hc : a % LL = c) (w : World) (hT : T w) : Calls Tryz.prog 18 #[.agg (B64 (bdig a))] w fun x w' => x = .returned (.agg (B32 (bdig c))) ∧ Below w.heap.size w w' := by
  subst hc; exact F.swide a ha w hT
theorem Low.smuladdA {a b c d : Nat} (ha : a < R256) (hb : b < R256) (hc : c < R256) (hd : (a * b + c) % LL = d) (w : World) (hT : T w) : Calls Tryz.prog 20 #[.agg (B32 (bdig a)), .agg (B32 (bdig b)), .agg (B32 (bdig c))] w fun x w' => x = .returned (.agg (B32 (bdig d))) ∧ Below w.heap.size w w' := by
  subst hd; exact F.smuladd a b c ha hb hc w hT
theorem Low.scheckA {a : Nat} {b : Bool} (ha : a < R256) (hb : decide (a < LL) = b) (w : World) (hT : T w) : Calls Tryz.prog 15 #[.agg (B32 (bdig a))] w fun x w' => x = .returned (.bool b) ∧ Below w.heap.size w w' := by
  subst hb; exact F.scheck a ha w hT
theorem Low.addA {P Q : Pt E5} {a b c : Nat} (ha : enc P = a) (hb : enc Q = b) (hc : enc (P.add Q) = c) (w : World) (hT : T w) : Calls Tryz.prog 30 #[.agg (B32 (bdig a)), .agg (B32 (bdig b))] w fun x w' => x = .returned (.tuple #[.agg (B32 (bdig c)), .int .i64 0]) ∧ Below w.heap.size w w' := by
  subst ha; subst hb; subst hc; exact F.add P Q w hT
theorem Low.mulA {n : Nat} {P : Pt E5} {a c : Nat} (hn : n < R256) (ha : enc P = a) (hc : enc (Pt.times n P) = c) (w : World) (hT : T w) : Calls Tryz.prog 29 #[.agg (B32 (bdig n)), .agg (B32 (bdig a))] w fun x w' => x = .returned (.tuple #[.agg (B32 (bdig c)), .int .i64 0]) ∧ Below w.heap.size w w' := by
  subst ha; subst hc; exact F.mul n hn P w hT
theorem Low.baseA {n c : Nat} (hn : n < R256) (hc : enc (Pt.times n BP) = c) (w : World) (hT : T w) : Calls Tryz.prog 17 #[.agg (B32 (bdig n))] w fun x w' => x = .returned (.agg (B32 (bdig c))) ∧ Below w.heap.size w w' := by
  subst hc; exact F.base n hn w hT
end
end Go.Proofs.YtfkcphbbabaefaaGreatDoor
