/- Texts as whole blocks, and what is left over: plain facts on lists of bytes. -/
import Derived.Test.YtgibllaifnnfkaaDoorJM1
namespace Go.Proofs.YtgibllaifnnfkaaDoor.J

theorem sched_congr {f g : Nat → Int} (h : ∀ i, i < 64 → f i = g i) : ∀ n, n ≤ 64 → sched f n = sched g n
  | 0, _ => rfl
  | n + 1, hn => by
    have ih := sched_congr h n (by omega)
    have e : nextW f (sched f n) = nextW g (sched f n) := by
      unfold nextW
      rw [sched_length]
      split
      · rw [h _ (by omega), h _ (by omega), h _ (by omega), h _ (by omega)]
      · rfl
    rw [sched, sched, e, ih]
theorem mixS_congr {f g : Nat → Int} (s : St) (h : ∀ i, i < 64 → f i = g i) : mixS s f = mixS s g := by
  unfold mixS; rw [sched_congr h 64 (Nat.le_refl _)]

/-- The state behind the first n blocks. -/
def blocks (f : Nat → Int) : Nat → St
  | 0 => start
  | n + 1 => mixS (blocks f n) (fun i => f (64 * n + i))
theorem blocks_congr {f g : Nat → Int} : ∀ n, (∀ i, i < 64 * n → f i = g i) → blocks f n = blocks g n
  | 0, _ => rfl
  | n + 1, h => by
    rw [blocks, blocks, blocks_congr n (fun i hi => h i (by omega))]
    exact mixS_congr _ (fun i hi => h _ (by omega))
/-- The state behind all whole blocks of a text. -/
def stOf (l : List Int) : St := blocks (fun i => l.getD i 0) (l.length / 64)

theorem getD_left (l m : List Int) (i : Nat) (h : i < l.length) : (l ++ m).getD i 0 = l.getD i 0 := by
  simp [List.getD, List.getElem?_append_left h]
theorem getD_right (l m : List Int) (i : Nat) : (l ++ m).getD (l.length + i) 0 = m.getD i 0 := by
  simp [List.getD, List.getElem?_append_right]

theorem stOf_small (l m : List Int) (h : l.length % 64 + m.length < 64) : stOf (l ++ m) = stOf l := by
  have e : (l ++ m).length / 64 = l.length / 64 := by rw [List.length_append]; omega
  unfold stOf
  rw [e]
  exact blocks_congr _ (fun i hi => getD_left l m i (by omega))
theorem stOf_block (l m : List Int) (h : l.length % 64 = 0) (hm : m.length = 64) : stOf (l ++ m) = mixS (stOf l) (fun i => m.getD i 0) := by
  have e : (l ++ m).length / 64 = l.length / 64 + 1 := by rw [List.length_append]; omega
  have e2 : 64 * (l.length / 64) = l.length := by omega
  unfold stOf
  rw [e, blocks, blocks_congr (g := fun i => l.getD i 0) _ (fun i hi => getD_left l m i (by omega))]
  exact mixS_congr _ (fun i _ => by rw [e2]; exact getD_right l m i)

/-- What is left of a text behind its whole blocks. -/
def rest (l : List Int) : List Int := l.drop (l.length - l.length % 64)
theorem rest_length (l : List Int) : (rest l).length = l.length % 64 := by
  simp [rest]; have := Nat.mod_le l.length 64; omega
theorem whole_rest (l : List Int) : l.take (l.length - l.length % 64) ++ rest l = l := List.take_append_drop _ _
theorem rest_small (l m : List Int) (h : l.length % 64 + m.length < 64) : rest (l ++ m) = rest l ++ m := by
  have e : (l ++ m).length - (l ++ m).length % 64 = l.length - l.length % 64 := by rw [List.length_append]; omega
  unfold rest
  rw [e, List.drop_append_of_le_length (by omega)]
theorem stOf_fill (l m : List Int) (h : l.length % 64 + m.length = 64) : stOf (l ++ m) = mixS (stOf l) (fun i => (rest l ++ m).getD i 0) := by
  have e := whole_rest l
  have hl : (l.take (l.length - l.length % 64)).length = l.length - l.length % 64 := by simp
  have h0 : (l.take (l.length - l.length % 64)).length % 64 = 0 := by rw [hl]; omega
  have h1 : stOf l = stOf (l.take (l.length - l.length % 64)) := by
    have := stOf_small (l.take (l.length - l.length % 64)) (rest l) (by rw [h0, rest_length]; omega)
    rw [e] at this; exact this
  rw [h1, ← stOf_block _ _ h0 (by rw [List.length_append, rest_length]; exact h), ← List.append_assoc, e]
theorem rest_whole (l : List Int) (h : l.length % 64 = 0) : rest l = [] := by
  unfold rest; rw [h]; simp

/-- The sum of a text: its whole blocks with the padding. -/
def endSt (l : List Int) : St := stOf (l ++ padL l.length)
def stWords (s : St) : List Int := [s.a, s.b, s.c, s.d, s.e, s.f, s.g, s.h]
def sumBytes (s : St) : List Int := (stWords s).flatMap be4
/-- The first k words of a sum, and noughts. -/
def sumL (s : St) (k : Nat) : List Value := u8s (((stWords s).take k).flatMap be4) ++ List.replicate (32 - 4 * k) (.int .u8 0)
theorem be4_length (x : Int) : (be4 x).length = 4 := rfl
theorem flat_length : ∀ (l : List Int), (l.flatMap be4).length = 4 * l.length
  | [] => rfl
  | x :: r => by rw [List.flatMap_cons, List.length_append, flat_length r, be4_length, List.length_cons]; omega
theorem sumL_length (s : St) (k : Nat) (h : k ≤ 8) : (sumL s k).length = 32 := by
  rw [sumL, List.length_append, u8s, List.length_map, flat_length, List.length_take, List.length_replicate, show (stWords s).length = 8 from rfl, Nat.min_eq_left h]; omega
theorem sumL_zero (s : St) : (sumL s 0).toArray = Array.replicate 32 (Value.int .u8 0) := rfl
theorem sumL_eight (s : St) : sumL s 8 = u8s (sumBytes s) := by simp [sumL, sumBytes, stWords]
theorem sumL_split (s : St) (k : Nat) (h : k < 8) : ∃ L1 L2 : List Value, L1.length = 4 * k ∧ sumL s k = L1 ++ (.int .u8 0 :: .int .u8 0 :: .int .u8 0 :: .int .u8 0 :: L2) ∧ sumL s (k + 1) = L1 ++ (u8s (be4 ((stWords s).getD k 0)) ++ L2) := by
  refine ⟨u8s (((stWords s).take k).flatMap be4), List.replicate (32 - 4 * (k + 1)) (.int .u8 0), ?_, ?_, ?_⟩
  · rw [u8s, List.length_map, flat_length, List.length_take, show (stWords s).length = 8 from rfl, Nat.min_eq_left (by omega)]
  · rw [sumL, show 32 - 4 * k = (32 - 4 * (k + 1)) + 1 + 1 + 1 + 1 from by omega]; rfl
  · have hk : k < (stWords s).length := h
    have e : (stWords s).getD k 0 = (stWords s)[k] := by simp [List.getD, hk]
    rw [sumL, List.take_succ_eq_append_getElem hk, List.flatMap_append, e, u8s, u8s, u8s, List.map_append, List.append_assoc]
    simp
def digest (l : List Int) : List Int := sumBytes (endSt l)

/-- Words of a state lie in their range. -/
def St.ok (s : St) : Prop := (0 ≤ s.a ∧ s.a < 4294967296) ∧ (0 ≤ s.b ∧ s.b < 4294967296) ∧ (0 ≤ s.c ∧ s.c < 4294967296) ∧ (0 ≤ s.d ∧ s.d < 4294967296) ∧ (0 ≤ s.e ∧ s.e < 4294967296) ∧ (0 ≤ s.f ∧ s.f < 4294967296) ∧ (0 ≤ s.g ∧ s.g < 4294967296) ∧ (0 ≤ s.h ∧ s.h < 4294967296)
theorem addSt_ok (s r : St) : (addSt s r).ok := by simp only [St.ok, addSt]; omega
theorem blocks_ok (f : Nat → Int) : ∀ n, (blocks f n).ok
  | 0 => by simp only [St.ok, blocks, start]; omega
  | n + 1 => addSt_ok _ _
theorem stOf_ok (l : List Int) : (stOf l).ok := blocks_ok _ _

/-- The cells of a Sha: the state, the tail, the length. -/
def shaL (s : St) (tl : List Int) (n : Int) : List Value :=
  .int .u32 s.a :: .int .u32 s.b :: .int .u32 s.c :: .int .u32 s.d :: .int .u32 s.e :: .int .u32 s.f :: .int .u32 s.g :: .int .u32 s.h :: (u8s tl ++ [.int .i64 n])
def shaArr (s : St) (tl : List Int) (n : Int) : Array Value := (shaL s tl n).toArray
theorem shaArr_size (s : St) (tl : List Int) (n : Int) (h : tl.length = 64) : (shaArr s tl n).size = 73 := by simp [shaArr, shaL, u8s, h]
theorem shaArr_len (s : St) (tl : List Int) (n : Int) (h : tl.length = 64) : (shaArr s tl n)[72]? = some (.int .i64 n) := by
  simp [shaArr, shaL, u8s, h]
theorem shaArr_setLen (s : St) (tl : List Int) (n n' : Int) (h : tl.length = 64) : (shaArr s tl n).setIfInBounds 72 (.int .i64 n') = shaArr s tl n' := by
  simp [shaArr, shaL, u8s, h]
theorem shaArr_setSt (s s' : St) (tl : List Int) (n : Int) : ((((((((shaArr s tl n).setIfInBounds 0 (.int .u32 s'.a)).setIfInBounds 1 (.int .u32 s'.b)).setIfInBounds 2 (.int .u32 s'.c)).setIfInBounds 3 (.int .u32 s'.d)).setIfInBounds 4 (.int .u32 s'.e)).setIfInBounds 5 (.int .u32 s'.f)).setIfInBounds 6 (.int .u32 s'.g)).setIfInBounds 7 (.int .u32 s'.h) = shaArr s' tl n := by
  simp [shaArr, shaL]
theorem shaArr_tail (s : St) (tl : List Int) (n : Int) (i : Nat) (h : i < tl.length) : (shaArr s tl n)[8 + i]? = some (.int .u8 (tl.getD i 0)) := by
  rw [Nat.add_comm]
  simp [shaArr, shaL, u8s, List.getElem?_append_left, h]
theorem shaL_splice (s : St) (tl m : List Int) (n : Int) (o : Nat) (h : o + m.length ≤ tl.length) : splice (shaL s tl n) (8 + o) (u8s m) = shaL s (tl.take o ++ (m ++ tl.drop (o + m.length))) n := by
  rw [Nat.add_comm]
  have e : o + 8 + m.length = (o + m.length) + 8 := by omega
  simp [splice, shaL, u8s, e, List.take_append_of_le_length, List.drop_append_of_le_length, h, Nat.le_trans (Nat.le_add_right o m.length) h]
end Go.Proofs.YtgibllaifnnfkaaDoor.J
