/- Of the texts GA, RA: what the card of this claim reaches. -/
import Derived.Test.YtgibllaifnnfkaaGreatDoorXE10
import Derived.Test.YtgibllaifnnfkaaGreatDoorXE3
import Derived.Test.YtgibllaifnnfkaaGreatDoorXE11
import Derived.Test.YtgibllaifnnfkaaGreatDoorXE5
import Derived.Test.YtgibllaifnnfkaaGreatDoorCards
import Derived.Test.YtgibllaifnnfkaaGreatDoorTie
import Derived.ProofKit
import Derived.OpenShut
import Derived.ChangeOld
import Derived.Deep.DeepHandedRow
import Derived.Lib.LaidTab
import Derived.LaidSub
namespace Go.Proofs.YtgibllaifnnfkaaGreatDoor
open Go Go.RowKit
def BN (n : Nat) (f : Nat → Nat) : Array Value := ((List.range n).map fun i => Value.int .u8 (f i : Int)).toArray
theorem BN_size (n : Nat) (f : Nat → Nat) : (BN n f).size = n := by unfold BN; simp
theorem BN_at (n : Nat) (f : Nat → Nat) (i : Nat) (h : i < n) : (BN n f)[i]? = some (.int .u8 (f i : Int)) := by
  unfold BN; simp [h]
theorem BN_ext {n : Nat} {f g : Nat → Nat} (h : ∀ i, i < n → f i = g i) : BN n f = BN n g := by
  unfold BN
  congr 1
  apply List.map_congr_left
  intro i hi
  rw [h i (by simpa using hi)]
theorem BN_one (n : Nat) (f : Nat → Nat) : (BN n f).all (·.oneCell') = true := all_oneCell_toArray fun v hv => by
  obtain ⟨i, -, rfl⟩ := List.mem_map.1 hv
  rfl
theorem BN_sizes (n : Nat) (f g : Nat → Nat) : (BN n f).size = (BN n g).size := by rw [BN_size, BN_size]
theorem BN_le (n : Nat) (f g : Nat → Nat) : 0 + (BN n f).size ≤ (BN n g).size := by rw [BN_size, BN_size]; exact Nat.le_of_eq (Nat.zero_add _)
def over (f : Nat → Nat) (o m : Nat) (g : Nat → Nat) : Nat → Nat := fun i => if o ≤ i ∧ i < o + m then g (i - o) else f i
theorem array_eq_BN {A : Array Value} {n : Nat} {f : Nat → Nat} (hs : A.size = n) (h : ∀ i, i < n → A[i]? = some (.int .u8 (f i : Int))) : A = BN n f := by
  apply Array.ext_getElem?
  intro i
  by_cases hi : i < n
  · rw [h i hi, BN_at n f i hi]
  · rw [Array.getElem?_eq_none (by omega), Array.getElem?_eq_none (by rw [BN_size]; omega)]
theorem BN_setOne {n : Nat} {f : Nat → Nat} {k x : Nat} : (BN n f).setIfInBounds k (.int .u8 (x : Int)) = BN n (upd f k x) := by
  refine array_eq_BN (by rw [Array.size_setIfInBounds, BN_size]) fun i hi => ?_
  rw [Array.getElem?_setIfInBounds, BN_size, BN_at n f i hi]
  by_cases e : k = i
  · subst e; simp [hi, upd_same]
  · rw [upd_other _ _ _ _ (Ne.symm e)]; simp [e]
theorem fold_put (g : Nat → Nat) (n o : Nat) : ∀ (m k : Nat) (f : Nat → Nat), (((List.range' k m).map fun i => Value.int .u8 (g i : Int)).zipIdx k).foldl (fun cs p => cs.setIfInBounds (o + p.snd) p.fst) (BN n f) = BN n (over f (o + k) m (fun i => g (k + i)))
  | 0, k, f => by
    refine BN_ext fun i _ => ?_
    unfold over
    rw [if_neg (by omega)]
  | m + 1, k, f => by
    rw [List.range'_succ, List.map_cons, List.zipIdx_cons, List.foldl_cons]
    rw [BN_setOne, fold_put g n o m (k + 1)]
    refine BN_ext fun i _ => ?_
    unfold over
    by_cases e : i = o + k
    · subst e
      rw [if_neg (by omega), if_pos (by omega), upd_same]
      show g k = g _
      congr 1; omega
    · rw [upd_other _ _ _ _ e]
      by_cases h : o + (k + 1) ≤ i ∧ i < o + (k + 1) + m
      · rw [if_pos h, if_pos (by omega)]
        show g _ = g _
        congr 1; omega
      · rw [if_neg h, if_neg (by omega)]
theorem BN_put (n o m : Nat) (f g : Nat → Nat) : Array.foldl (fun cs p => cs.setIfInBounds (o + p.snd) p.fst) (BN n f) (BN m g).zipIdx 0 m = BN n (over f o m g) := by
  have h := fold_put g n o m 0 f
  have hs : ((BN m g).zipIdx).size = m := by rw [Array.size_zipIdx, BN_size]
  rw [Array.foldl_eq_foldl_extract]
  have e : ((BN m g).zipIdx).extract 0 m = (BN m g).zipIdx := Array.extract_eq_self_of_le (Nat.le_of_eq hs)
  rw [e, ← Array.foldl_toList, Array.toList_zipIdx]
  unfold BN at h ⊢
  simp only [List.range_eq_range'] at h ⊢
  rw [h]
  simp only [Nat.add_zero, Nat.zero_add]
structure N3 where
  X : Nat
  Y : Nat
  Z : Nat
def N3.get (r : N3) : Nat → Nat
  | 0 => r.X
  | 1 => r.Y
  | _ => r.Z
def t3 (r : N3) : Nat → Nat := fun i => bdig (r.get (i / 32)) (i % 32)
def QA (r : N3) : Array Value := BN 96 (t3 r)
theorem infoQA : (Tryz.prog.info? 74).map (·.size) = some 96 := by kernel_rfl
theorem QA_size (r : N3) : (QA r).size = 96 := BN_size _ _
theorem QA_info (r : N3) : (Tryz.prog.info? 74).map (·.size) = some (QA r).size := by rw [infoQA, QA_size]
theorem QA_one (r : N3) : (QA r).all (·.oneCell') = true := BN_one _ _
theorem QA_sizes (r s : N3) : (QA r).size = (QA s).size := BN_sizes _ _ _
theorem QA_le (r s : N3) : 0 + (QA r).size ≤ (QA s).size := BN_le _ _ _
theorem zeroQA : (Tryz.prog.info? 74).map (fun i => (i.zero, i.size)) = some (some (.agg (QA ⟨0, 0, 0⟩)), 96) := by kernel_rfl
theorem t3_at (r : N3) (k j : Nat) (hj : j < 32) : t3 r (32 * k + j) = bdig (r.get k) j := by
  unfold t3
  rw [show (32 * k + j) / 32 = k by omega, show (32 * k + j) % 32 = j by omega]
theorem B32_toList_at {f : Nat → Nat} {j : Nat} {v : Value} (h : (B32 f).toList[j]? = some v) : j < 32 ∧ v = .int .u8 (f j : Int) := by
  rw [Array.getElem?_toList] at h
  have hj : j < 32 := by have := (Array.getElem?_eq_some_iff.1 h).1; rwa [B32_size] at this
  rw [B32_at f j hj] at h
  exact ⟨hj, (Option.some.inj h).symm⟩
theorem BN_toList_at {n : Nat} {f : Nat → Nat} {j : Nat} {v : Value} (h : (BN n f).toList[j]? = some v) : j < n ∧ v = .int .u8 (f j : Int) := by
  rw [Array.getElem?_toList] at h
  have hj : j < n := by have := (Array.getElem?_eq_some_iff.1 h).1; rwa [BN_size] at this
  rw [BN_at n f j hj] at h
  exact ⟨hj, (Option.some.inj h).symm⟩
theorem QA_part (r : N3) (k : Nat) (hk : k < 3) {w : World} {b : Nat} {t : TypeId} (h : Own w b (QA r) t) : w.rangeAt b (32 * k) (B32 (bdig (r.get k))).toList := fun j v hv => by
  obtain ⟨hj, rfl⟩ := B32_toList_at hv
  have := h.cell (BN_at 96 (t3 r) (32 * k + j) (by omega))
  rw [t3_at r k j hj] at this
  exact this
theorem B32_len (f : Nat → Nat) : (Tryz.prog.info? 22).map (·.size) = some (B32 f).toList.length := by rw [infoB32, Array.length_toList, B32_size]
theorem QA_len (r : N3) : (Tryz.prog.info? 74).map (·.size) = some (QA r).toList.length := by rw [infoQA, Array.length_toList, QA_size]
theorem wp_load_prt {op : Oper} {a : Act} {w : World} {K : Act → World → Prop} {Q : Exit → Act → World → Prop} (k : Nat) (hk : k < 3) (x : Operand) (ho : op.op = .load 22 x)
    (b : Nat) (hx : a.eval x = .pointer (some ⟨b, 32 * k, none⟩)) {r : N3} {t : TypeId} (hc : Own w b (QA r) t) (h : K (a.put op.dst (.agg (B32 (bdig (r.get k))))) w) : op.wp Tryz.prog a w K Q :=
  wp_load_mid 22 x ho b (32 * k) hx (B32 (bdig (r.get k))).toList _ (QA_part r k hk hc) Tryz.underlying22 rfl (B32_len _) h
theorem wpList_load_prt {ops : Array Oper} {rest : List Oper} {op : Oper} {a : Act} {w : World} {Q : Exit → Act → World → Prop} (hgd : op.guard = none) (k : Nat) (hk : k < 3) (x : Operand) (ho : op.op = .load 22 x)
    (b : Nat) (hx : a.eval x = .pointer (some ⟨b, 32 * k, none⟩)) {r : N3} {t : TypeId} (hc : Own w b (QA r) t) (h : wpList Tryz.prog ops Q rest (a.put op.dst (.agg (B32 (bdig (r.get k))))) w) : wpList Tryz.prog ops Q (op :: rest) a w :=
  wpList_load_mid hgd 22 x ho b (32 * k) hx (B32 (bdig (r.get k))).toList _ (QA_part r k hk hc) Tryz.underlying22 rfl (B32_len _) h
theorem over3 (X Y Z : Nat) : BN 96 (over (over (over (t3 ⟨0, 0, 0⟩) 0 32 (bdig X)) 32 32 (bdig Y)) 64 32 (bdig Z)) = QA ⟨X, Y, Z⟩ := BN_ext fun i hi => by
  unfold over
  by_cases h2 : 64 ≤ i
  · rw [if_pos (by omega)]
    obtain ⟨j, rfl⟩ : ∃ j, i = 32 * 2 + j := ⟨i - 64, by omega⟩
    rw [t3_at _ 2 j (by omega), show 32 * 2 + j - 64 = j by omega]; rfl
  · rw [if_neg (by omega)]
    by_cases h1 : 32 ≤ i
    · rw [if_pos (by omega)]
      obtain ⟨j, rfl⟩ : ∃ j, i = 32 * 1 + j := ⟨i - 32, by omega⟩
      rw [t3_at _ 1 j (by omega), show 32 * 1 + j - 32 = j by omega]; rfl
    · rw [if_neg (by omega), if_pos (by omega)]
      obtain ⟨j, rfl⟩ : ∃ j, i = 32 * 0 + j := ⟨i, by omega⟩
      rw [t3_at _ 0 j (by omega), show 32 * 0 + j - 0 = j by omega]; rfl
theorem B32_put0 (f x : Nat → Nat) : Array.foldl (fun cs p => cs.setIfInBounds p.snd p.fst) (BN 96 f) (B32 x).zipIdx 0 32 = BN 96 (over f 0 32 x) := by
  have := BN_put 96 0 32 f x
  simp only [Nat.zero_add] at this
  exact this
theorem B32_putAt (o : Nat) (f x : Nat → Nat) : Array.foldl (fun cs p => cs.setIfInBounds (o + p.snd) p.fst) (BN 96 f) (B32 x).zipIdx 0 32 = BN 96 (over f o 32 x) := BN_put 96 o 32 f x
theorem wp_build_q {op : Oper} {a : Act} {w : World} {K : Act → World → Prop} {Q : Exit → Act → World → Prop} (t0 t1 t2 : Tmp) (X Y Z : Nat) (ho : op.op = .build 74 #[(0, .tmp t0), (1, .tmp t1), (2, .tmp t2)])
    (f0 : a.tmps.getD t0 undef = .agg (B32 (bdig X))) (f1 : a.tmps.getD t1 undef = .agg (B32 (bdig Y))) (f2 : a.tmps.getD t2 undef = .agg (B32 (bdig Z))) (h : K (a.put op.dst (.agg (QA ⟨X, Y, Z⟩))) w) : op.wp Tryz.prog a w K Q := by
  have hzP := (zero_of_info zeroQA).1
  have g0 := getq f0
  have g1 := getq f1
  have g2 := getq f2
  unfold Oper.wp execOp
  rw [ho]
  go_simp
  have hb : ∀ f, (B32 f).size = 32 := B32_size
  have hq : QA ⟨0, 0, 0⟩ = BN 96 (t3 ⟨0, 0, 0⟩) := rfl
  simp only [hb, hq, B32_put0, B32_putAt, BN_size]
  go_simp
  rw [over3]
  exact h
theorem wpList_build_q {ops : Array Oper} {rest : List Oper} {op : Oper} {a : Act} {w : World} {Q : Exit → Act → World → Prop} (hgd : op.guard = none) (t0 t1 t2 : Tmp) (X Y Z : Nat) (ho : op.op = .build 74 #[(0, .tmp t0), (1, .tmp t1), (2, .tmp t2)])
    (f0 : a.tmps.getD t0 undef = .agg (B32 (bdig X))) (f1 : a.tmps.getD t1 undef = .agg (B32 (bdig Y))) (f2 : a.tmps.getD t2 undef = .agg (B32 (bdig Z))) (h : wpList Tryz.prog ops Q rest (a.put op.dst (.agg (QA ⟨X, Y, Z⟩))) w) : wpList Tryz.prog ops Q (op :: rest) a w :=
  wpList_plain hgd fun _ hK => wp_build_q t0 t1 t2 X Y Z ho f0 f1 f2 (hK _ _ h)
theorem one_bytes : B32 (upd (fun _ => 0) 0 1) = B32 (bdig 1) := by kernel_rfl
theorem wp_build_one {op : Oper} {a : Act} {w : World} {K : Act → World → Prop} {Q : Exit → Act → World → Prop} (ho : op.op = .build 22 #[(0, .const (.int .u8 1))]) (h : K (a.put op.dst (.agg (B32 (bdig 1)))) w) : op.wp Tryz.prog a w K Q := by
  have hz := (zero_of_info zeroB32).1
  unfold Oper.wp execOp
  rw [ho]
  go_simp
  have h1 : (B32 fun _ => 0).setIfInBounds 0 (.int .u8 1) = B32 (bdig 1) := by rw [← one_bytes]; exact B32_set (fun _ => 0) 0 1 (by decide)
  simp only [h1]
  go_simp
  exact h
theorem wpList_build_one {ops : Array Oper} {rest : List Oper} {op : Oper} {a : Act} {w : World} {Q : Exit → Act → World → Prop} (hgd : op.guard = none) (ho : op.op = .build 22 #[(0, .const (.int .u8 1))]) (h : wpList Tryz.prog ops Q rest (a.put op.dst (.agg (B32 (bdig 1)))) w) : wpList Tryz.prog ops Q (op :: rest) a w :=
  wpList_plain hgd fun _ hK => wp_build_one ho (hK _ _ h)
def MA (f : Nat → N3) : Array Value := BN 1536 (fun i => t3 (f (i / 96)) (i % 96))
theorem infoMA : (Tryz.prog.info? 116).map (·.size) = some 1536 := by kernel_rfl
theorem MA_size (f : Nat → N3) : (MA f).size = 1536 := BN_size _ _
theorem MA_info (f : Nat → N3) : (Tryz.prog.info? 116).map (·.size) = some (MA f).size := by rw [infoMA, MA_size]
theorem MA_one (f : Nat → N3) : (MA f).all (·.oneCell') = true := BN_one _ _
theorem MA_sizes (f g : Nat → N3) : (MA f).size = (MA g).size := BN_sizes _ _ _
theorem MA_le (f g : Nat → N3) : 0 + (MA f).size ≤ (MA g).size := BN_le _ _ _
set_option maxRecDepth 100000 in
theorem zeroMA : (Tryz.prog.info? 116).map (fun i => (i.zero, i.size)) = some (some (.agg (MA fun _ => ⟨0, 0, 0⟩)), 1536) := by kernel_rfl
theorem MA_part (f : Nat → N3) (k : Nat) (hk : k < 16) {w : World} {b : Nat} {t : TypeId} (h : Own w b (MA f) t) : w.rangeAt b (96 * k) (QA (f k)).toList := fun j v hv => by
  obtain ⟨hj, rfl⟩ := BN_toList_at hv
  have := h.cell (BN_at 1536 (fun i => t3 (f (i / 96)) (i % 96)) (96 * k + j) (by omega))
  simp only [show (96 * k + j) / 96 = k by omega, show (96 * k + j) % 96 = j by omega] at this
  exact this
def updQ (f : Nat → N3) (k : Nat) (r : N3) : Nat → N3 := fun i => if i = k then r else f i
theorem own_seg {b : Nat} {t : TypeId} (n : Nat) (g : Nat → Nat) : ∀ (m k o : Nat) (f : Nat → Nat) (w : World), Own w b (BN n f) t → Own (w.setCells b (o + k) ((List.range' k m).map fun i => Value.int .u8 (g i : Int))) b (BN n (over f (o + k) m (fun i => g (k + i)))) t
  | 0, k, o, f, w, h => by
    rw [show BN n (over f (o + k) 0 (fun i => g (k + i))) = BN n f from BN_ext fun i _ => by unfold over; rw [if_neg (by omega)]]
    exact h
  | m + 1, k, o, f, w, h => by
    rw [List.range'_succ, List.map_cons, World.setCells]
    have h1 := h.setCell (o + k) (.int .u8 (g k : Int))
    rw [BN_setOne] at h1
    have h2 := own_seg n g m (k + 1) o (upd f (o + k) (g k)) _ h1
    rw [show BN n (over f (o + k) (m + 1) (fun i => g (k + i))) = BN n (over (upd f (o + k) (g k)) (o + (k + 1)) m (fun i => g (k + 1 + i))) from BN_ext fun i _ => by
      unfold over
      by_cases e : i = o + k
      · subst e
        rw [if_pos (by omega), if_neg (by omega), upd_same]
        show g _ = g _
        congr 1; omega
      · rw [upd_other _ _ _ _ e]
        by_cases h : o + (k + 1) ≤ i ∧ i < o + (k + 1) + m
        · rw [if_pos h, if_pos (by omega)]
          show g _ = g _
          congr 1; omega
        · rw [if_neg h, if_neg (by omega)]]
    exact h2
theorem own_put {w : World} {b : Nat} {t : TypeId} {n m o : Nat} {f g : Nat → Nat} (h : Own w b (BN n f) t) : Own (w.setCells b o (BN m g).toList) b (BN n (over f o m g)) t := by
  have := own_seg n g m 0 o f w h
  simp only [Nat.add_zero, Nat.zero_add] at this
  unfold BN at this ⊢
  rw [List.range_eq_range' (n := m)]
  exact this
theorem MA_over (f : Nat → N3) (k : Nat) (r : N3) : BN 1536 (over (fun i => t3 (f (i / 96)) (i % 96)) (96 * k) 96 (t3 r)) = MA (updQ f k r) := BN_ext fun i hi => by
  unfold over updQ
  by_cases h : i / 96 = k
  · rw [if_pos (by omega), if_pos h]
    congr 1; omega
  · rw [if_neg (by omega), if_neg h]
theorem MA_put {w : World} {b : Nat} {t : TypeId} {f : Nat → N3} (k : Nat) (r : N3) (h : Own w b (MA f) t) : Own (w.setCells b (96 * k) (QA r).toList) b (MA (updQ f k r)) t := by
  rw [← MA_over]
  exact own_put h
theorem BN_putQ (f x : Nat → Nat) : Array.foldl (fun cs p => cs.setIfInBounds p.snd p.fst) (BN 1536 f) (BN 96 x).zipIdx 0 96 = BN 1536 (over f 0 96 x) := by
  have := BN_put 1536 0 96 f x
  simp only [Nat.zero_add] at this
  exact this
theorem wp_build_m {op : Oper} {a : Act} {w : World} {K : Act → World → Prop} {Q : Exit → Act → World → Prop} (t0 : Tmp) (r : N3) (ho : op.op = .build 116 #[(0, .tmp t0)])
    (f0 : a.tmps.getD t0 undef = .agg (QA r)) (h : K (a.put op.dst (.agg (MA (updQ (fun _ => ⟨0, 0, 0⟩) 0 r)))) w) : op.wp Tryz.prog a w K Q := by
  have hzP := (zero_of_info zeroMA).1
  have g0 := getq f0
  unfold Oper.wp execOp
  rw [ho]
  go_simp
  have hm : MA (fun _ => ⟨0, 0, 0⟩) = BN 1536 (fun i => t3 ((fun _ => ⟨0, 0, 0⟩ : Nat → N3) (i / 96)) (i % 96)) := rfl
  have hq : QA r = BN 96 (t3 r) := rfl
  simp only [hm, hq, BN_putQ, BN_size]
  go_simp
  have := MA_over (fun _ => ⟨0, 0, 0⟩) 0 r
  rw [Nat.mul_zero] at this
  rw [this]
  exact h
theorem wpList_build_m {ops : Array Oper} {rest : List Oper} {op : Oper} {a : Act} {w : World} {Q : Exit → Act → World → Prop} (hgd : op.guard = none) (t0 : Tmp) (r : N3) (ho : op.op = .build 116 #[(0, .tmp t0)])
    (f0 : a.tmps.getD t0 undef = .agg (QA r)) (h : wpList Tryz.prog ops Q rest (a.put op.dst (.agg (MA (updQ (fun _ => ⟨0, 0, 0⟩) 0 r)))) w) : wpList Tryz.prog ops Q (op :: rest) a w :=
  wpList_plain hgd fun _ hK => wp_build_m t0 r ho f0 (hK _ _ h)
end Go.Proofs.YtgibllaifnnfkaaGreatDoor
namespace Go.Proofs.YtgibllaifnnfkaaGreatDoor
open Go Go.RowKit
theorem one_R : 1 < R256 := by decide
structure Ok3 (P : Pt E5) (r : N3) : Prop where
  hx : fq r.X = P.x * fq r.Z
  hy : fq r.Y = P.y * fq r.Z
  hz : fq r.Z ≠ 0
  lX : r.X < R256
  lY : r.Y < R256
  lZ : r.Z < R256
def sum3 (p q : N3) : N3 :=
  let xx := p.X * q.X % pp
  let yy := p.Y * q.Y % pp
  let zz := p.Z * q.Z % pp
  let ac := (p.X * q.Y % pp + p.Y * q.X % pp) % pp
  let o := zz * zz % pp
  let k := dd * (xx * yy % pp) % pp
  let ov := (o + k) % pp
  let un := subp o k
  ⟨zz * (ac * un % pp) % pp, zz * ((yy + xx) % pp * ov % pp) % pp, ov * un % pp⟩
def dbl3 (p : N3) : N3 :=
  let xx := p.X * p.X % pp
  let yy := p.Y * p.Y % pp
  let zz := p.Z * p.Z % pp
  let xy := p.X * p.Y % pp
  let ov := subp yy xx
  let un := subp ((zz + zz) % pp) ov
  ⟨(xy + xy) % pp * un % pp, (yy + xx) % pp * ov % pp, ov * un % pp⟩
theorem sum_parts {n : Nat} [NeZero n] {d x1 y1 z1 x2 y2 z2 x3 y3 ac ov un zz yx : Fin n} (hzz : zz = z1 * z2) (hac : ac = x1 * z1 * (y2 * z2) + y1 * z1 * (x2 * z2)) (hyx : yx = y1 * z1 * (y2 * z2) + x1 * z1 * (x2 * z2))
    (hov : ov = zz * zz + d * (x1 * z1 * (x2 * z2) * (y1 * z1 * (y2 * z2)))) (hun : un = zz * zz - d * (x1 * z1 * (x2 * z2) * (y1 * z1 * (y2 * z2))))
    (sx : x3 * (1 + d * x1 * x2 * y1 * y2) = x1 * y2 + y1 * x2) (sy : y3 * (1 - d * x1 * x2 * y1 * y2) = y1 * y2 + x1 * x2) :
    zz * (ac * un) = x3 * (ov * un) ∧ zz * (yx * ov) = y3 * (ov * un) ∧ ov = zz * zz * (1 + d * x1 * x2 * y1 * y2) ∧ un = zz * zz * (1 - d * x1 * x2 * y1 * y2) := by
  have e1 : ov = zz * zz * (1 + d * x1 * x2 * y1 * y2) := by rw [hov, hzz]; grind
  have e2 : un = zz * zz * (1 - d * x1 * x2 * y1 * y2) := by rw [hun, hzz]; grind
  have e3 : ac = zz * (x3 * (1 + d * x1 * x2 * y1 * y2)) := by rw [sx, hac, hzz]; grind
  have e4 : yx = zz * (y3 * (1 - d * x1 * x2 * y1 * y2)) := by rw [sy, hyx, hzz]; grind
  refine ⟨?_, ?_, e1, e2⟩
  · rw [e3, e1]; grind
  · rw [e4, e2]; grind
theorem Ok3.sum {P Q : Pt E5} {p q : N3} (h1 : Ok3 P p) (h2 : Ok3 Q q) : Ok3 (P.add Q) (sum3 p q) := by
  obtain ⟨sx, sy⟩ := P.add_sum Q
  obtain ⟨ex, ey, ev, eu⟩ := sum_parts (d := E5.d) (z1 := fq p.Z) (z2 := fq q.Z) rfl rfl rfl rfl rfl sx sy
  have nz := E5.mul_ne (E5.mul_ne h1.hz h2.hz) (E5.mul_ne h1.hz h2.hz)
  refine ⟨?_, ?_, ?_, lt_of_mod, lt_of_mod, lt_of_mod⟩
  · unfold sum3
    simp only [fq_mulm, fq_addm, fq_sub', h1.hx, h1.hy, h2.hx, h2.hy, ← E5_d]
    exact ex
  · unfold sum3
    simp only [fq_mulm, fq_addm, fq_sub', h1.hx, h1.hy, h2.hx, h2.hy, ← E5_d]
    exact ey
  · unfold sum3
    simp only [fq_mulm, fq_addm, fq_sub', h1.hx, h1.hy, h2.hx, h2.hy, ← E5_d]
    rw [ev, eu]
    exact E5.mul_ne (E5.mul_ne nz (E5.plus_ne P.on Q.on)) (E5.mul_ne nz (E5.minus_ne P.on Q.on))
theorem dbl_parts {n : Nat} [NeZero n] {d x y z x3 y3 ov un xy yx : Fin n} (on : y * y - x * x = 1 + d * x * x * y * y) (hxy : xy = x * z * (y * z) + x * z * (y * z)) (hyx : yx = y * z * (y * z) + x * z * (x * z))
    (hov : ov = y * z * (y * z) - x * z * (x * z)) (hun : un = z * z + z * z - ov)
    (sx : x3 * (1 + d * x * x * y * y) = x * y + y * x) (sy : y3 * (1 - d * x * x * y * y) = y * y + x * x) :
    xy * un = x3 * (ov * un) ∧ yx * ov = y3 * (ov * un) ∧ ov = z * z * (1 + d * x * x * y * y) ∧ un = z * z * (1 - d * x * x * y * y) := by
  have e1 : ov = z * z * (1 + d * x * x * y * y) := by rw [hov, ← on]; grind
  have e2 : un = z * z * (1 - d * x * x * y * y) := by rw [hun, e1]; grind
  have e3 : xy = z * z * (x3 * (1 + d * x * x * y * y)) := by rw [sx, hxy]; grind
  have e4 : yx = z * z * (y3 * (1 - d * x * x * y * y)) := by rw [sy, hyx]; grind
  refine ⟨?_, ?_, e1, e2⟩
  · rw [e3, e1]; grind
  · rw [e4, e2]; grind
theorem Ok3.dbl {P : Pt E5} {p : N3} (h1 : Ok3 P p) : Ok3 (P.add P) (dbl3 p) := by
  obtain ⟨sx, sy⟩ := P.add_sum P
  obtain ⟨ex, ey, ev, eu⟩ := dbl_parts (d := E5.d) (z := fq p.Z) P.on rfl rfl rfl rfl sx sy
  have nz := E5.mul_ne h1.hz h1.hz
  refine ⟨?_, ?_, ?_, lt_of_mod, lt_of_mod, lt_of_mod⟩
  · unfold dbl3
    simp only [fq_mulm, fq_addm, fq_sub', h1.hx, h1.hy]
    exact ex
  · unfold dbl3
    simp only [fq_mulm, fq_addm, fq_sub', h1.hx, h1.hy]
    exact ey
  · unfold dbl3
    simp only [fq_mulm, fq_addm, fq_sub', h1.hx, h1.hy]
    rw [eu, ev]
    exact E5.mul_ne (E5.mul_ne nz (E5.plus_ne P.on P.on)) (E5.mul_ne nz (E5.minus_ne P.on P.on))
theorem Ok3.zero : Ok3 (Pt.zero : Pt E5) ⟨0, 1, 1⟩ := ⟨by simp only [Pt.zero, fq_zero, fq_one]; grind, by simp only [Pt.zero, fq_one]; grind, E5.one_ne, by decide, by decide, by decide⟩
theorem Ok3.ofPt {P : Pt E5} {x y : Nat} (hx : P.x = fq x) (hy : P.y = fq y) (lx : x < R256) (ly : y < R256) : Ok3 P ⟨x, y, 1⟩ :=
  ⟨by simp only [fq_one, hx]; grind, by simp only [fq_one, hy]; grind, E5.one_ne, lx, ly, one_R⟩
theorem Ok3.base : Ok3 BP ⟨bxN, byN, 1⟩ := Ok3.ofPt rfl rfl (by decide) (by decide)
theorem Ok3.enc {P : Pt E5} {r : N3} (h : Ok3 P r) : r.Y * finv r.Z % pp + HH * (r.X * finv r.Z % pp % 2) = enc P := by
  obtain ⟨hx, hy, hz, -, -, -⟩ := h
  have hi := fq_inv hz
  have ex : fq (r.X * finv r.Z) = P.x := by rw [fq_mul, hx]; grind
  have ey : fq (r.Y * finv r.Z) = P.y := by rw [fq_mul, hy]; grind
  unfold Go.Proofs.YtgibllaifnnfkaaGreatDoor.enc
  rw [← ex, ← ey, fq_val, fq_val]
structure TC (w : World) : Prop where
  p : TP w
  t : TT w
  ld : 4 < w.heap.size
  d : w.rangeAt 4 0 (B32 (bdig dd)).toList
  ln : 2 < w.heap.size
  n : w.rangeAt 2 0 (QA ⟨0, 1, 1⟩).toList
  lb : 0 < w.heap.size
  b : w.rangeAt 0 0 (QA ⟨bxN, byN, 1⟩).toList
theorem range_keep {w w' : World} {b : Nat} {l : List Value} (h : w.rangeAt b 0 l) (hb : b < w.heap.size) (hB : Below w.heap.size w w') : w'.rangeAt b 0 l := fun j v hv => by
  rw [(bcell hB).1 _ _ hb]
  exact h j v hv
theorem TC.keep {w w' : World} (h : TC w) (hB : Below w.heap.size w w') : TC w' :=
  ⟨h.p.keep hB, h.t.keep hB, Nat.lt_of_lt_of_le h.ld hB.size, range_keep h.d h.ld hB, Nat.lt_of_lt_of_le h.ln hB.size, range_keep h.n h.ln hB, Nat.lt_of_lt_of_le h.lb hB.size, range_keep h.b h.lb hB⟩
theorem subp_R (a b : Nat) : subp a b < R256 := lt_of_mod
theorem finv_lR (a : Nat) : finv a < R256 := Nat.lt_trans (finv_lt a) (by decide)
theorem ddR : dd < R256 := by decide
theorem cmul {a b c : Nat} (ha : a < R256) (hb : b < R256) (hc : a * b % pp = c) (w : World) (hT : TC w) : Calls Tryz.prog 87 #[.agg (B32 (bdig a)), .agg (B32 (bdig b))] w fun x w' => x = .returned (.agg (B32 (bdig c))) ∧ Below w.heap.size w w' := fld.mulA ha hb hc w hT.p
theorem cadd {a b c : Nat} (ha : a < R256) (hb : b < R256) (hc : (a + b) % pp = c) (w : World) (hT : TC w) : Calls Tryz.prog 99 #[.agg (B32 (bdig a)), .agg (B32 (bdig b))] w fun x w' => x = .returned (.agg (B32 (bdig c))) ∧ Below w.heap.size w w' := fld.addA ha hb hc w hT.p
theorem csub {a b c : Nat} (ha : a < R256) (hb : b < R256) (hc : subp a b = c) (w : World) (hT : TC w) : Calls Tryz.prog 100 #[.agg (B32 (bdig a)), .agg (B32 (bdig b))] w fun x w' => x = .returned (.agg (B32 (bdig c))) ∧ Below w.heap.size w w' := fld.subA ha hb hc w hT.p
theorem csub0 {b c : Nat} (hb : b < R256) (hc : subp 0 b = c) (w : World) (hT : TC w) : Calls Tryz.prog 100 #[.agg (B32 fun _ => 0), .agg (B32 (bdig b))] w fun x w' => x = .returned (.agg (B32 (bdig c))) ∧ Below w.heap.size w w' := by
  rw [zero_bytes]; exact csub (by decide) hb hc w hT
theorem cinv {a c : Nat} (ha : a < R256) (hc : finv a = c) (w : World) (hT : TC w) : Calls Tryz.prog 86 #[.agg (B32 (bdig a))] w fun x w' => x = .returned (.agg (B32 (bdig c))) ∧ Below w.heap.size w w' := finvA finv_p ha hc w hT.p
theorem croot {a : Nat} (ha : a < R256) {v : Value} (hv : rootBo (froot a) = v) (w : World) (hT : TC w) : Calls Tryz.prog 118 #[.agg (B32 (bdig a))] w fun x w' => x = .returned v ∧ Below w.heap.size w w' := by
  rw [← hv]; exact proot_any a ha w hT.p hT.t
theorem ccheck_yes {a : Nat} (ha : a < R256) (h : a < pp) (w : World) (hT : TC w) : Calls Tryz.prog 96 #[.agg (B32 (bdig a))] w fun x w' => x = .returned (.bool true) ∧ Below w.heap.size w w' := by
  have := fld.check a ha w hT.p
  rwa [decide_eq_true h] at this
theorem ccheck_no {a : Nat} (ha : a < R256) (h : ¬ a < pp) (w : World) (hT : TC w) : Calls Tryz.prog 96 #[.agg (B32 (bdig a))] w fun x w' => x = .returned (.bool false) ∧ Below w.heap.size w w' := by
  have := fld.check a ha w hT.p
  rwa [decide_eq_false h] at this
theorem wp_load_d {op : Oper} {a : Act} {w : World} {K : Act → World → Prop} {Q : Exit → Act → World → Prop} (ho : op.op = .load 22 (.global 4)) (hT : TC w) (h : K (a.put op.dst (.agg (B32 (bdig dd)))) w) : op.wp Tryz.prog a w K Q :=
  wp_load_mid 22 _ ho 4 0 rfl (B32 (bdig dd)).toList _ hT.d Tryz.underlying22 rfl (B32_len _) h
theorem wpList_load_n {ops : Array Oper} {rest : List Oper} {op : Oper} {a : Act} {w : World} {Q : Exit → Act → World → Prop} (hgd : op.guard = none) (ho : op.op = .load 74 (.global 2)) (hT : TC w) (h : wpList Tryz.prog ops Q rest (a.put op.dst (.agg (QA ⟨0, 1, 1⟩))) w) : wpList Tryz.prog ops Q (op :: rest) a w :=
  wpList_load_mid hgd 74 _ ho 2 0 rfl (QA ⟨0, 1, 1⟩).toList _ hT.n Tryz.underlying74 rfl (QA_len _) h
theorem wpList_load_b {ops : Array Oper} {rest : List Oper} {op : Oper} {a : Act} {w : World} {Q : Exit → Act → World → Prop} (hgd : op.guard = none) (ho : op.op = .load 74 (.global 0)) (hT : TC w) (h : wpList Tryz.prog ops Q rest (a.put op.dst (.agg (QA ⟨bxN, byN, 1⟩))) w) : wpList Tryz.prog ops Q (op :: rest) a w :=
  wpList_load_mid hgd 74 _ ho 0 0 rfl (QA ⟨bxN, byN, 1⟩).toList _ hT.b Tryz.underlying74 rfl (QA_len _) h
end Go.Proofs.YtgibllaifnnfkaaGreatDoor
namespace Go.Proofs.YtgibllaifnnfkaaGreatDoor
open Go.ChangeShapes Go.WideShapes Go.ChangeAt Go.RowKit
theorem own : ownKnob Tryz.prog.godebug = none := by kernel_rfl
theorem laidOut : laidOutB Tryz.prog = true := by kernel_rfl
theorem cellsB32 : Tryz.prog.cellsOf 22 = 32 := by kernel_rfl
theorem cellsU8 : Tryz.prog.cellsOf 5 = 1 := by kernel_rfl
theorem cellsFN : Tryz.prog.cellsOf 131 = 4 := by kernel_rfl
theorem cellsU64 : Tryz.prog.cellsOf 52 = 1 := by kernel_rfl
theorem list4 {α : Type} {l : List α} (h : l.length = 4) : ∃ a b c d, l = [a, b, c, d] := by
  match l, h with
  | [a, b, c, d], _ => exact ⟨a, b, c, d, rfl⟩
theorem num_listed {W : World} {name : String} {a b c d : Int} {rest : List (String × DataW Unit)} {g : Nat} (hg : Tryz.prog.globalNamed name = some g) (hty : (Tryz.prog.globals[g]?).map (·.type) = some 131)
    (h : laidMet Tryz.prog ((name, .agg [.lit (.int .u64 a), .lit (.int .u64 b), .lit (.int .u64 c), .lit (.int .u64 d)]) :: rest) W) :
    W.var? Tryz.prog name = some #[.int .u64 a, .int .u64 b, .int .u64 c, .int .u64 d] := by
  obtain ⟨ps, ⟨g', t', cs, fuel, p, q, hg', ht', hvar, hd, _, _⟩, _⟩ := h
  obtain rfl := Option.some.inj (hg.symm.trans hg')
  obtain rfl := Option.some.inj (hty.symm.trans ht')
  obtain ⟨xs, n, -, hx, hl, hxl, hf⟩ := DataW.trod_struct Tryz.underlying131 hd
  rw [cellsFN] at hl
  obtain ⟨c0, c1, c2, c3, e⟩ := list4 hl
  obtain ⟨x0, x1, x2, x3, rfl⟩ := list4 hxl
  have h0 : DataW.trod (fun _ => ()) Tryz.prog W 0 (fun _ => true) false n 52 (List.take (Tryz.prog.cellsOf 52) (List.drop 0 cs.toList)) = [x0, x1, x2, x3][0]? := hf 0 _ rfl
  have h1 : DataW.trod (fun _ => ()) Tryz.prog W 0 (fun _ => true) false n 52 (List.take (Tryz.prog.cellsOf 52) (List.drop 1 cs.toList)) = [x0, x1, x2, x3][1]? := hf 1 _ rfl
  have h2 : DataW.trod (fun _ => ()) Tryz.prog W 0 (fun _ => true) false n 52 (List.take (Tryz.prog.cellsOf 52) (List.drop 2 cs.toList)) = [x0, x1, x2, x3][2]? := hf 2 _ rfl
  have h3 : DataW.trod (fun _ => ()) Tryz.prog W 0 (fun _ => true) false n 52 (List.take (Tryz.prog.cellsOf 52) (List.drop 3 cs.toList)) = [x0, x1, x2, x3][3]? := hf 3 _ rfl
  rw [e] at h0 h1 h2 h3
  rw [cellsU64] at h0 h1 h2 h3
  obtain ⟨n0, hn0, rfl, -⟩ := DataW.trod_int Tryz.underlying52 h0
  obtain ⟨n1, hn1, rfl, -⟩ := DataW.trod_int Tryz.underlying52 h1
  obtain ⟨n2, hn2, rfl, -⟩ := DataW.trod_int Tryz.underlying52 h2
  obtain ⟨n3, hn3, rfl, -⟩ := DataW.trod_int Tryz.underlying52 h3
  simp at hx hn0 hn1 hn2 hn3
  obtain ⟨⟨rfl, rfl, rfl, rfl⟩, -⟩ := hx
  rw [hvar]
  have : cs = cs.toList.toArray := rfl
  rw [this, e, hn0, hn1, hn2, hn3]
theorem gPrime : Tryz.prog.globalNamed "codicil/field.prime" = some 9 := by kernel_rfl
theorem gPrimeType : (Tryz.prog.globals[9]?).map (·.type) = some 131 := by kernel_rfl
theorem tp_of {W : World} {rest : List (String × DataW Unit)} (h : laidMet Tryz.prog (("codicil/field.prime", Rows.laid_codicil_field_prime) :: rest) W) : TP W := by
  have hv := num_listed gPrime gPrimeType h
  have c := World.var?_cell gPrime hv
  have c0 := c 0
  have c1 := c 1
  have c2 := c 2
  have c3 := c 3
  exact ⟨World.block_lt_of_cell? W _ c0, c0, c1, c2, c3⟩
def byteOf : Value → Nat
  | .int .u8 n => n.toNat
  | _ => 0
set_option maxRecDepth 100000 in
theorem open_b32 {H : Type} {enc : TypeId × Value → H} {W : World} {r : Reach} {b0 base : Nat} {spare : Nat → Bool} {held : Bool} {v : Value} {d : DataW H} {p : List MemPlace}
    (hval : Value.okWide Tryz.prog W r b0 22 v) (h : DataW.Trod enc Tryz.prog W base spare held 22 v d p) : ∃ n, n < R256 ∧ v = .agg (B32 (bdig n)) := by
  unfold Value.okWide at hval
  rw [Tryz.underlying22] at hval
  obtain ⟨cs, rfl, hsz, -⟩ := hval
  rw [cellsB32] at hsz
  obtain ⟨fuel, hf⟩ := h
  obtain ⟨xs, m, -, -, -, hxl, hx⟩ := DataW.trod_array Tryz.underlying22 hf
  rw [cellsU8] at hx
  have hc : ∀ i, i < 32 → ∃ k : Nat, k < 256 ∧ cs[i]? = some (.int .u8 (k : Int)) := fun i hi => by
    have h1 := hx i hi
    rw [List.getElem?_eq_getElem (by omega)] at h1
    obtain ⟨n, hn, -, hw⟩ := DataW.trod_int Tryz.underlying5 h1
    have hb := bounds_u8 hw
    rw [Nat.mul_one] at hn
    have hi' : i < cs.size := by omega
    have h2 : cs[i]? = some (.int .u8 n) := by
      have := congrArg (·[0]?) hn
      simp only [Value.cells, List.getElem?_take, List.getElem?_drop] at this
      simpa using this
    exact ⟨n.toNat, by omega, by rw [h2, Int.toNat_of_nonneg hb.1]⟩
  have hf : cs = B32 fun i => byteOf (cs.getD i undef) := by
    apply Array.ext_getElem?
    intro i
    by_cases hi : i < 32
    · obtain ⟨k, hk, e⟩ := hc i hi
      rw [B32_at _ i hi, e]
      simp [Array.getD_eq_getD_getElem?, e, byteOf]
    · rw [Array.getElem?_eq_none (by omega), Array.getElem?_eq_none (by rw [B32_size]; omega)]
  have hlt : ∀ i, i < 32 → byteOf (cs.getD i undef) < 256 := fun i hi => by
    obtain ⟨k, hk, e⟩ := hc i hi
    simp [Array.getD_eq_getD_getElem?, e, byteOf]; exact hk
  refine ⟨vb (fun i => byteOf (cs.getD i undef)) 32, vb_lt _ 32 hlt, ?_⟩
  conv => lhs; rw [hf]
  rw [B32_ext fun i hi => (bdig_vb _ 32 hlt i hi).symm]
end Go.Proofs.YtgibllaifnnfkaaGreatDoor
namespace Go.Proofs.YtgibllaifnnfkaaGreatDoor
open Go.ChangeShapes Go.WideShapes Go.ChangeAt Go.RowKit
theorem gTurn : Tryz.prog.globalNamed "codicil/field.turn" = some 8 := by kernel_rfl
theorem gTurnType : (Tryz.prog.globals[8]?).map (·.type) = some 131 := by kernel_rfl
theorem tt_of {W : World} (h : laidMet Tryz.prog [("codicil/field.prime", Rows.laid_codicil_field_prime), ("codicil/field.turn", Rows.laid_codicil_field_turn)] W) : TT W := by
  have h2 : laidMet Tryz.prog [("codicil/field.turn", Rows.laid_codicil_field_turn)] W := laidMet.filter (fun p => p.1 == "codicil/field.turn") h
  have hv := num_listed gTurn gTurnType h2
  have c := World.var?_cell gTurn hv
  have c0 := c 0
  have c1 := c 1
  have c2 := c 2
  have c3 := c 3
  exact ⟨World.block_lt_of_cell? W _ c0, c0, c1, c2, c3⟩
end Go.Proofs.YtgibllaifnnfkaaGreatDoor
namespace Go.Proofs.YtgibllaifnnfkaaGreatDoor
open Go Go.ChangeShapes Go.WideShapes Go.ChangeAt Go.RowKit
def d32 (f : Nat → Nat) : DataW Unit := .agg ((List.range 32).map fun i => .lit (.int .u8 (f i : Int)))
theorem bytes_trod {W : World} {spare : Nat → Bool} {held : Bool} {base fuel : Nat} {cs : List Value} {f : Nat → Nat} {p : List MemPlace} (h : DataW.trod (fun _ => ()) Tryz.prog W base spare held fuel 22 cs = some (d32 f, p)) : ∀ i, i < 32 → cs[i]? = some (.int .u8 (f i : Int)) := fun i hi => by
  obtain ⟨xs, m, -, hx, hl, hxl, hf⟩ := DataW.trod_array Tryz.underlying22 h
  rw [cellsU8] at hf
  rw [cellsB32] at hl
  have h1 := hf i hi
  rw [List.getElem?_eq_getElem (by omega)] at h1
  obtain ⟨n, hn, hy, -⟩ := DataW.trod_int Tryz.underlying5 h1
  have e : d32 f = .agg (xs.map (·.1)) := congrArg Prod.fst hx
  unfold d32 at e
  simp only [DataW.agg.injEq] at e
  have e2 := congrArg (·[i]?) e
  simp only [List.getElem?_map, List.getElem?_range hi, Option.map_some, List.getElem?_eq_getElem (show i < xs.length by omega), hy, Option.some.injEq, DataW.lit.injEq, Lit.int.injEq, true_and] at e2
  have h2 := congrArg (·[0]?) hn
  rw [Nat.mul_one] at h2
  simp only [List.getElem?_take, List.getElem?_drop] at h2
  rw [e2]
  simpa using h2
theorem laid_one {W : World} {name : String} {d : DataW Unit} {rest : List (String × DataW Unit)} {g : Nat} {ty : TypeId} (hg : Tryz.prog.globalNamed name = some g) (hty : (Tryz.prog.globals[g]?).map (·.type) = some ty) (h : laidMet Tryz.prog ((name, d) :: rest) W) :
    ∃ (cs : Array Value) (fuel : Nat) (p : List MemPlace), W.var? Tryz.prog name = some cs ∧ DataW.trod (fun _ => ()) Tryz.prog W 0 (fun _ => true) false fuel ty cs.toList = some (d, p) := by
  obtain ⟨ps, ⟨g', t', cs, fuel, p, q, hg', ht', hvar, hd, _, _⟩, _⟩ := h
  obtain rfl := Option.some.inj (hg.symm.trans hg')
  obtain rfl := Option.some.inj (hty.symm.trans ht')
  exact ⟨cs, fuel, p, hvar, hd⟩
theorem gD : Tryz.prog.globalNamed "codicil/curve.d" = some 4 := by kernel_rfl
theorem gDT : (Tryz.prog.globals[4]?).map (·.type) = some 22 := by kernel_rfl
theorem gN : Tryz.prog.globalNamed "codicil/curve.nought" = some 2 := by kernel_rfl
theorem gNT : (Tryz.prog.globals[2]?).map (·.type) = some 74 := by kernel_rfl
theorem gB : Tryz.prog.globalNamed "codicil/curve.base" = some 0 := by kernel_rfl
theorem gBT : (Tryz.prog.globals[0]?).map (·.type) = some 74 := by kernel_rfl
theorem lD : (Rows.laid_codicil_curve_d : DataW Unit) = d32 (bdig dd) := by kernel_rfl
theorem lN : (Rows.laid_codicil_curve_nought : DataW Unit) = .agg [d32 (bdig 0), d32 (bdig 1), d32 (bdig 1)] := by kernel_rfl
theorem lB : (Rows.laid_codicil_curve_base : DataW Unit) = .agg [d32 (bdig bxN), d32 (bdig byN), d32 (bdig 1)] := by kernel_rfl
theorem list3 {α : Type} {l : List α} (h : l.length = 3) : ∃ a b c, l = [a, b, c] := by
  match l, h with
  | [a, b, c], _ => exact ⟨a, b, c, rfl⟩
theorem point_trod {W : World} {spare : Nat → Bool} {held : Bool} {base fuel : Nat} {cs : List Value} {X Y Z : Nat} {p : List MemPlace} (h : DataW.trod (fun _ => ()) Tryz.prog W base spare held fuel 74 cs = some (.agg [d32 (bdig X), d32 (bdig Y), d32 (bdig Z)], p)) : ∀ i, i < 96 → cs[i]? = some (.int .u8 (t3 ⟨X, Y, Z⟩ i : Int)) := fun i hi => by
  obtain ⟨xs, n, -, hx, hl, hxl, hf⟩ := DataW.trod_struct Tryz.underlying74 h
  obtain ⟨x0, x1, x2, rfl⟩ := list3 hxl
  have e : DataW.agg [d32 (bdig X), d32 (bdig Y), d32 (bdig Z)] = .agg [x0.1, x1.1, x2.1] := congrArg Prod.fst hx
  simp only [DataW.agg.injEq, List.cons.injEq, and_true] at e
  obtain ⟨e0, e1, e2⟩ := e
  have h0 : DataW.trod (fun _ => ()) Tryz.prog W base spare held n 22 (List.take (Tryz.prog.cellsOf 22) (List.drop 0 cs)) = some x0 := hf 0 _ rfl
  have h1 : DataW.trod (fun _ => ()) Tryz.prog W base spare held n 22 (List.take (Tryz.prog.cellsOf 22) (List.drop 32 cs)) = some x1 := hf 1 _ rfl
  have h2 : DataW.trod (fun _ => ()) Tryz.prog W base spare held n 22 (List.take (Tryz.prog.cellsOf 22) (List.drop 64 cs)) = some x2 := hf 2 _ rfl
  rw [cellsB32] at h0 h1 h2
  obtain ⟨a0, b0⟩ := x0
  obtain ⟨a1, b1⟩ := x1
  obtain ⟨a2, b2⟩ := x2
  simp only at e0 e1 e2
  subst e0 e1 e2
  by_cases k2 : 64 ≤ i
  · obtain ⟨j, rfl⟩ : ∃ j, i = 32 * 2 + j := ⟨i - 64, by omega⟩
    have := bytes_trod h2 j (by omega)
    rw [List.getElem?_take, if_pos (by omega), List.getElem?_drop] at this
    rw [t3_at _ 2 j (by omega)]
    exact this
  · by_cases k1 : 32 ≤ i
    · obtain ⟨j, rfl⟩ : ∃ j, i = 32 * 1 + j := ⟨i - 32, by omega⟩
      have := bytes_trod h1 j (by omega)
      rw [List.getElem?_take, if_pos (by omega), List.getElem?_drop] at this
      rw [t3_at _ 1 j (by omega)]
      exact this
    · obtain ⟨j, rfl⟩ : ∃ j, i = 32 * 0 + j := ⟨i, by omega⟩
      have := bytes_trod h0 j (by omega)
      rw [List.getElem?_take, if_pos (by omega), List.getElem?_drop] at this
      rw [t3_at _ 0 j (by omega)]
      rw [show 32 * 0 + j = 0 + j by omega]
      exact this
theorem range_of {W : World} {name : String} {g n : Nat} {cs : Array Value} {f : Nat → Nat} (hg : Tryz.prog.globalNamed name = some g) (hv : W.var? Tryz.prog name = some cs) (hn : 0 < n) (h : ∀ i, i < n → cs.toList[i]? = some (.int .u8 (f i : Int))) : g < W.heap.size ∧ W.rangeAt g 0 (BN n f).toList := by
  have c := World.var?_cell hg hv
  refine ⟨World.block_lt_of_cell? W _ ((c 0).trans (by have := h 0 hn; rw [Array.getElem?_toList] at this; exact this)), fun j v hj => ?_⟩
  obtain ⟨hlt, rfl⟩ := BN_toList_at hj
  rw [Nat.zero_add, c j]
  have := h j hlt
  rwa [Array.getElem?_toList] at this
theorem tc_of {W : World} (h : laidMet Tryz.prog [("codicil/field.prime", Rows.laid_codicil_field_prime), ("codicil/field.turn", Rows.laid_codicil_field_turn), ("codicil/curve.nought", Rows.laid_codicil_curve_nought), ("codicil/curve.base", Rows.laid_codicil_curve_base), ("codicil/curve.d", Rows.laid_codicil_curve_d)] W) : TC W := by
  have h2 : laidMet Tryz.prog [("codicil/field.prime", Rows.laid_codicil_field_prime), ("codicil/field.turn", Rows.laid_codicil_field_turn)] W := laidMet.filter (fun p => p.1 == "codicil/field.prime" || p.1 == "codicil/field.turn") h
  have hd : laidMet Tryz.prog [("codicil/curve.d", Rows.laid_codicil_curve_d)] W := laidMet.filter (fun p => p.1 == "codicil/curve.d") h
  have hn : laidMet Tryz.prog [("codicil/curve.nought", Rows.laid_codicil_curve_nought)] W := laidMet.filter (fun p => p.1 == "codicil/curve.nought") h
  have hb : laidMet Tryz.prog [("codicil/curve.base", Rows.laid_codicil_curve_base)] W := laidMet.filter (fun p => p.1 == "codicil/curve.base") h
  obtain ⟨c1, f1, p1, v1, t1⟩ := laid_one gD gDT hd
  obtain ⟨c2, f2, p2, v2, t2⟩ := laid_one gN gNT hn
  obtain ⟨c3, f3, p3, v3, t3⟩ := laid_one gB gBT hb
  rw [lD] at t1
  rw [lN] at t2
  rw [lB] at t3
  obtain ⟨l1, r1⟩ := range_of gD v1 (by decide) (bytes_trod t1)
  obtain ⟨l2, r2⟩ := range_of gN v2 (by decide) (point_trod t2)
  obtain ⟨l3, r3⟩ := range_of gB v3 (by decide) (point_trod t3)
  exact ⟨tp_of h2, tt_of h2, l1, r1, l2, r2, l3, r3⟩
end Go.Proofs.YtgibllaifnnfkaaGreatDoor
