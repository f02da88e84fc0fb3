/- Of the texts HA, HB: what the card of this claim reaches. -/
import Derived.WalkKit
import Derived.Laws.BitsAllLaws
import Derived.Laws.CopyOwn
import Derived.Test.YtgibllaifnnfkaaGreatDoorRows
import Derived.Test.YtgibllaifnnfkaaGreatDoorXE1
import Derived.WalkSpells
import Derived.WalkLawsBesides
import Derived.Deep.QuietTactic
import Derived.BigQuiet
import Derived.Deep.MidRow
import Derived.Deep.RegionHeld3
import Derived.Deep.WholeRow
import Derived.Deep.Cut
namespace Go.Proofs.YtgibllaifnnfkaaGreatDoor.H
def rotl (x : Int) (s : Nat) : Int := bits .or .u64 (IntKind.u64.wrap (x * 2 ^ s)) (x / 2 ^ (64 - s))
def acc (f : Nat → Int) : Nat → Int
  | 0 => 0
  | j + 1 => bits .or .u64 (IntKind.u64.wrap (acc f j * 256)) (f j)
theorem acc_congr {f g : Nat → Int} : ∀ n, (∀ i, i < n → f i = g i) → acc f n = acc g n
  | 0, _ => rfl
  | n + 1, h => by rw [acc, acc, acc_congr n (fun i hi => h i (by omega)), h n (by omega)]
def xr (a b : Int) : Int := bits .xor .u64 a b
def sig0 (x : Int) : Int := xr (xr (rotl x 63) (rotl x 56)) (x / 128)
def sig1 (x : Int) : Int := xr (xr (rotl x 45) (rotl x 3)) (x / 64)
def big0 (x : Int) : Int := xr (xr (rotl x 36) (rotl x 30)) (rotl x 25)
def big1 (x : Int) : Int := xr (xr (rotl x 50) (rotl x 46)) (rotl x 23)
def add4 (a b c d : Int) : Int := IntKind.u64.wrap (IntKind.u64.wrap (IntKind.u64.wrap (a + b) + c) + d)
def nextW (f : Nat → Int) (l : List Int) : Int :=
  if l.length < 16 then acc (fun j => f (8 * l.length + j)) 8
  else add4 (l.getD (l.length - 16) 0) (sig0 (l.getD (l.length - 15) 0)) (l.getD (l.length - 7) 0) (sig1 (l.getD (l.length - 2) 0))
def sched (f : Nat → Int) : Nat → List Int
  | 0 => []
  | n + 1 => sched f n ++ [nextW f (sched f n)]
theorem sched_length (f : Nat → Int) : ∀ n, (sched f n).length = n
  | 0 => rfl
  | n + 1 => by simp [sched, sched_length f n]
def kays : List Int := [4794697086780616226, 8158064640168781261, 13096744586834688815, 16840607885511220156, 4131703408338449720, 6480981068601479193, 10538285296894168987, 12329834152419229976, 15566598209576043074, 1334009975649890238, 2608012711638119052, 6128411473006802146, 8268148722764581231, 9286055187155687089, 11230858885718282805, 13951009754708518548, 16472876342353939154, 17275323862435702243, 1135362057144423861, 2597628984639134821, 3308224258029322869, 5365058923640841347, 6679025012923562964, 8573033837759648693, 10970295158949994411, 12119686244451234320, 12683024718118986047, 13788192230050041572, 14330467153632333762, 15395433587784984357, 489312712824947311, 1452737877330783856, 2861767655752347644, 3322285676063803686, 5560940570517711597, 5996557281743188959, 7280758554555802590, 8532644243296465576, 9350256976987008742, 10552545826968843579, 11727347734174303076, 12113106623233404929, 14000437183269869457, 14369950271660146224, 15101387698204529176, 15463397548674623760, 17586052441742319658, 1182934255886127544, 1847814050463011016, 2177327727835720531, 2830643537854262169, 3796741975233480872, 4115178125766777443, 5681478168544905931, 6601373596472566643, 7507060721942968483, 8399075790359081724, 8693463985226723168, 9568029438360202098, 10144078919501101548, 10430055236837252648, 11840083180663258601, 13761210420658862357, 14299343276471374635, 14566680578165727644, 15097957966210449927, 16922976911328602910, 17689382322260857208, 500013540394364858, 748580250866718886, 1242879168328830382, 1977374033974150939, 2944078676154940804, 3659926193048069267, 4368137639120453308, 4836135668995329356, 5532061633213252278, 6448918945643986474, 6902733635092675308, 7801388544844847127]
structure St where
  a : Int
  b : Int
  c : Int
  d : Int
  e : Int
  f : Int
  g : Int
  h : Int
def start : St := ⟨7640891576956012808, 13503953896175478587, 4354685564936845355, 11912009170470909681, 5840696475078001361, 11170449401992604703, 2270897969802886507, 6620516959819538809⟩
def stArr (s : St) : Array Value := #[.int .u64 s.a, .int .u64 s.b, .int .u64 s.c, .int .u64 s.d, .int .u64 s.e, .int .u64 s.f, .int .u64 s.g, .int .u64 s.h]
def St.val (s : St) : Value := .agg (stArr s)
def ones : Int := if IntKind.u64.signed = true then -1 else IntKind.u64.max
def an (a b : Int) : Int := bits .and .u64 a b
def ch (e f g : Int) : Int := xr (an e f) (an (xr ones e) g)
def maj (a b c : Int) : Int := xr (xr (an a b) (an a c)) (an b c)
def tone (k x : Int) (s : St) : Int := IntKind.u64.wrap (add4 s.h (big1 s.e) (ch s.e s.f s.g) k + x)
def ttwo (s : St) : Int := IntKind.u64.wrap (big0 s.a + maj s.a s.b s.c)
def rnd (k x : Int) (s : St) : St := ⟨IntKind.u64.wrap (tone k x s + ttwo s), s.a, s.b, s.c, IntKind.u64.wrap (s.d + tone k x s), s.e, s.f, s.g⟩
def rnds (wf : Nat → Int) (s : St) : Nat → St
  | 0 => s
  | n + 1 => rnd (kays.getD n 0) (wf n) (rnds wf s n)
def addSt (s r : St) : St := ⟨IntKind.u64.wrap (s.a + r.a), IntKind.u64.wrap (s.b + r.b), IntKind.u64.wrap (s.c + r.c), IntKind.u64.wrap (s.d + r.d), IntKind.u64.wrap (s.e + r.e), IntKind.u64.wrap (s.f + r.f), IntKind.u64.wrap (s.g + r.g), IntKind.u64.wrap (s.h + r.h)⟩
def mixS (s : St) (f : Nat → Int) : St := addSt s (rnds (fun i => (sched f 80).getD i 0) s 80)
def byteAt (x : Int) (i : Nat) : Int := x / 2 ^ (56 - 8 * i) % 256
def be8 (x : Int) : List Int := [byteAt x 0, byteAt x 1, byteAt x 2, byteAt x 3, byteAt x 4, byteAt x 5, byteAt x 6, byteAt x 7]
def noughts (n : Nat) : Nat := (128 - (n % 128 + 1 + 16) % 128) % 128
def padL (n : Nat) : List Int := 128 :: (List.replicate (noughts n) 0 ++ (be8 0 ++ be8 ((n : Int) * 8)))
theorem padL_length (n : Nat) : (padL n).length = 1 + noughts n + 16 := by simp [padL, be8]; omega
theorem padL_whole (n : Nat) : (n + (padL n).length) % 128 = 0 := by rw [padL_length]; unfold noughts; omega
def u8s (l : List Int) : List Value := l.map (Value.int .u8)
def Bys (l : List Int) : Prop := ∀ x ∈ l, 0 ≤ x ∧ x < 256
theorem byteAt_range (x : Int) (i : Nat) : 0 ≤ byteAt x i ∧ byteAt x i < 256 := by unfold byteAt; generalize x / 2 ^ (56 - 8 * i) = y; omega
theorem be8_bys (x : Int) : Bys (be8 x) := by
  intro y hy
  simp only [be8, List.mem_cons, List.not_mem_nil, or_false] at hy
  rcases hy with rfl | rfl | rfl | rfl | rfl | rfl | rfl | rfl <;> exact byteAt_range _ _
theorem padL_bys (n : Nat) : Bys (padL n) := by
  intro y hy
  simp only [padL, List.mem_cons, List.mem_append, List.mem_replicate] at hy
  rcases hy with rfl | ⟨_, rfl⟩ | hy | hy
  · omega
  · omega
  · exact be8_bys _ y hy
  · exact be8_bys _ y hy
end Go.Proofs.YtgibllaifnnfkaaGreatDoor.H
namespace Go.Proofs.YtgibllaifnnfkaaGreatDoor.H
theorem sched_congr {f g : Nat → Int} (h : ∀ i, i < 128 → f i = g i) : ∀ n, n ≤ 80 → sched f n = sched g n
  | 0, _ => rfl
  | n + 1, hn => by
    have ih := sched_congr h n (by omega)
    have e : nextW f (sched f n) = nextW g (sched f n) := by
      unfold nextW
      rw [sched_length]
      split
      · exact acc_congr 8 (fun i hi => h _ (by omega))
      · rfl
    rw [sched, sched, e, ih]
theorem mixS_congr {f g : Nat → Int} (s : St) (h : ∀ i, i < 128 → f i = g i) : mixS s f = mixS s g := by
  unfold mixS; rw [sched_congr h 80 (Nat.le_refl _)]
def blocks (f : Nat → Int) : Nat → St
  | 0 => start
  | n + 1 => mixS (blocks f n) (fun i => f (128 * n + i))
theorem blocks_congr {f g : Nat → Int} : ∀ n, (∀ i, i < 128 * n → f i = g i) → blocks f n = blocks g n
  | 0, _ => rfl
  | n + 1, h => by
    rw [blocks, blocks, blocks_congr n (fun i hi => h i (by omega))]
    exact mixS_congr _ (fun i hi => h _ (by omega))
def stOf (l : List Int) : St := blocks (fun i => l.getD i 0) (l.length / 128)
theorem getD_left (l m : List Int) (i : Nat) (h : i < l.length) : (l ++ m).getD i 0 = l.getD i 0 := by
  simp [List.getD, List.getElem?_append_left h]
theorem getD_right (l m : List Int) (i : Nat) : (l ++ m).getD (l.length + i) 0 = m.getD i 0 := by
  simp [List.getD, List.getElem?_append_right]
theorem stOf_small (l m : List Int) (h : l.length % 128 + m.length < 128) : stOf (l ++ m) = stOf l := by
  have e : (l ++ m).length / 128 = l.length / 128 := by rw [List.length_append]; omega
  unfold stOf
  rw [e]
  exact blocks_congr _ (fun i hi => getD_left l m i (by omega))
theorem stOf_block (l m : List Int) (h : l.length % 128 = 0) (hm : m.length = 128) : stOf (l ++ m) = mixS (stOf l) (fun i => m.getD i 0) := by
  have e : (l ++ m).length / 128 = l.length / 128 + 1 := by rw [List.length_append]; omega
  have e2 : 128 * (l.length / 128) = l.length := by omega
  unfold stOf
  rw [e, blocks, blocks_congr (g := fun i => l.getD i 0) _ (fun i hi => getD_left l m i (by omega))]
  exact mixS_congr _ (fun i _ => by rw [e2]; exact getD_right l m i)
def rest (l : List Int) : List Int := l.drop (l.length - l.length % 128)
theorem rest_length (l : List Int) : (rest l).length = l.length % 128 := by
  simp [rest]; have := Nat.mod_le l.length 128; omega
theorem whole_rest (l : List Int) : l.take (l.length - l.length % 128) ++ rest l = l := List.take_append_drop _ _
theorem rest_small (l m : List Int) (h : l.length % 128 + m.length < 128) : rest (l ++ m) = rest l ++ m := by
  have e : (l ++ m).length - (l ++ m).length % 128 = l.length - l.length % 128 := by rw [List.length_append]; omega
  unfold rest
  rw [e, List.drop_append_of_le_length (by omega)]
theorem stOf_fill (l m : List Int) (h : l.length % 128 + m.length = 128) : stOf (l ++ m) = mixS (stOf l) (fun i => (rest l ++ m).getD i 0) := by
  have e := whole_rest l
  have hl : (l.take (l.length - l.length % 128)).length = l.length - l.length % 128 := by simp
  have h0 : (l.take (l.length - l.length % 128)).length % 128 = 0 := by rw [hl]; omega
  have h1 : stOf l = stOf (l.take (l.length - l.length % 128)) := by
    have := stOf_small (l.take (l.length - l.length % 128)) (rest l) (by rw [h0, rest_length]; omega)
    rw [e] at this; exact this
  rw [h1, ← stOf_block _ _ h0 (by rw [List.length_append, rest_length]; exact h), ← List.append_assoc, e]
theorem rest_whole (l : List Int) (h : l.length % 128 = 0) : rest l = [] := by
  unfold rest; rw [h]; simp
def endSt (l : List Int) : St := stOf (l ++ padL l.length)
def stWords (s : St) : List Int := [s.a, s.b, s.c, s.d, s.e, s.f, s.g, s.h]
def sumBytes (s : St) : List Int := (stWords s).flatMap be8
def sumL (s : St) (k : Nat) : List Value := u8s (((stWords s).take k).flatMap be8) ++ List.replicate (64 - 8 * k) (.int .u8 0)
theorem be8_length (x : Int) : (be8 x).length = 8 := rfl
theorem flat_length : ∀ (l : List Int), (l.flatMap be8).length = 8 * l.length
  | [] => rfl
  | x :: r => by rw [List.flatMap_cons, List.length_append, flat_length r, be8_length, List.length_cons]; omega
theorem sumL_length (s : St) (k : Nat) (h : k ≤ 8) : (sumL s k).length = 64 := by
  rw [sumL, List.length_append, u8s, List.length_map, flat_length, List.length_take, List.length_replicate, show (stWords s).length = 8 from rfl, Nat.min_eq_left h]; omega
theorem sumL_zero (s : St) : (sumL s 0).toArray = Array.replicate 64 (Value.int .u8 0) := rfl
theorem sumL_eight (s : St) : sumL s 8 = u8s (sumBytes s) := by simp [sumL, sumBytes, stWords]
theorem sumL_split (s : St) (k : Nat) (h : k < 8) : ∃ L1 L2 : List Value, L1.length = 8 * k ∧ sumL s k = L1 ++ (List.replicate 8 (.int .u8 0) ++ L2) ∧ sumL s (k + 1) = L1 ++ (u8s (be8 ((stWords s).getD k 0)) ++ L2) := by
  refine ⟨u8s (((stWords s).take k).flatMap be8), List.replicate (64 - 8 * (k + 1)) (.int .u8 0), ?_, ?_, ?_⟩
  · rw [u8s, List.length_map, flat_length, List.length_take, show (stWords s).length = 8 from rfl, Nat.min_eq_left (by omega)]
  · rw [sumL, List.replicate_append_replicate, show 64 - 8 * k = 8 + (64 - 8 * (k + 1)) from by omega]
  · have hk : k < (stWords s).length := h
    have e : (stWords s).getD k 0 = (stWords s)[k] := by simp [List.getD, hk]
    rw [sumL, List.take_succ_eq_append_getElem hk, List.flatMap_append, e, u8s, u8s, u8s, List.map_append, List.append_assoc]
    simp
def digest (l : List Int) : List Int := sumBytes (endSt l)
def St.ok (s : St) : Prop := (0 ≤ s.a ∧ s.a < 18446744073709551616) ∧ (0 ≤ s.b ∧ s.b < 18446744073709551616) ∧ (0 ≤ s.c ∧ s.c < 18446744073709551616) ∧ (0 ≤ s.d ∧ s.d < 18446744073709551616) ∧ (0 ≤ s.e ∧ s.e < 18446744073709551616) ∧ (0 ≤ s.f ∧ s.f < 18446744073709551616) ∧ (0 ≤ s.g ∧ s.g < 18446744073709551616) ∧ (0 ≤ s.h ∧ s.h < 18446744073709551616)
theorem wrap_range (x : Int) : 0 ≤ IntKind.u64.wrap x ∧ IntKind.u64.wrap x < 18446744073709551616 := by
  simp [IntKind.wrap, IntKind.bits, IntKind.signed]; omega
theorem addSt_ok (s r : St) : (addSt s r).ok := ⟨wrap_range _, wrap_range _, wrap_range _, wrap_range _, wrap_range _, wrap_range _, wrap_range _, wrap_range _⟩
theorem blocks_ok (f : Nat → Int) : ∀ n, (blocks f n).ok
  | 0 => by simp only [St.ok, blocks, start]; omega
  | n + 1 => addSt_ok _ _
theorem stOf_ok (l : List Int) : (stOf l).ok := blocks_ok _ _
def shaL (s : St) (tl : List Int) (n : Int) : List Value :=
  .int .u64 s.a :: .int .u64 s.b :: .int .u64 s.c :: .int .u64 s.d :: .int .u64 s.e :: .int .u64 s.f :: .int .u64 s.g :: .int .u64 s.h :: (u8s tl ++ [.int .i64 n])
def shaArr (s : St) (tl : List Int) (n : Int) : Array Value := (shaL s tl n).toArray
theorem shaArr_size (s : St) (tl : List Int) (n : Int) (h : tl.length = 128) : (shaArr s tl n).size = 137 := by simp [shaArr, shaL, u8s, h]
theorem shaArr_len (s : St) (tl : List Int) (n : Int) (h : tl.length = 128) : (shaArr s tl n)[136]? = some (.int .i64 n) := by
  simp [shaArr, shaL, u8s, h]
theorem shaArr_setLen (s : St) (tl : List Int) (n n' : Int) (h : tl.length = 128) : (shaArr s tl n).setIfInBounds 136 (.int .i64 n') = shaArr s tl n' := by
  simp [shaArr, shaL, u8s, h]
theorem shaArr_setSt (s s' : St) (tl : List Int) (n : Int) : ((((((((shaArr s tl n).setIfInBounds 0 (.int .u64 s'.a)).setIfInBounds 1 (.int .u64 s'.b)).setIfInBounds 2 (.int .u64 s'.c)).setIfInBounds 3 (.int .u64 s'.d)).setIfInBounds 4 (.int .u64 s'.e)).setIfInBounds 5 (.int .u64 s'.f)).setIfInBounds 6 (.int .u64 s'.g)).setIfInBounds 7 (.int .u64 s'.h) = shaArr s' tl n := by
  simp [shaArr, shaL]
theorem shaArr_tail (s : St) (tl : List Int) (n : Int) (i : Nat) (h : i < tl.length) : (shaArr s tl n)[8 + i]? = some (.int .u8 (tl.getD i 0)) := by
  rw [Nat.add_comm]
  simp [shaArr, shaL, u8s, List.getElem?_append_left, h]
theorem shaL_splice (s : St) (tl m : List Int) (n : Int) (o : Nat) (h : o + m.length ≤ tl.length) : splice (shaL s tl n) (8 + o) (u8s m) = shaL s (tl.take o ++ (m ++ tl.drop (o + m.length))) n := by
  rw [Nat.add_comm]
  have e : o + 8 + m.length = (o + m.length) + 8 := by omega
  simp [splice, shaL, u8s, e, List.take_append_of_le_length, List.drop_append_of_le_length, h, Nat.le_trans (Nat.le_add_right o m.length) h]
end Go.Proofs.YtgibllaifnnfkaaGreatDoor.H
namespace Go.Proofs.YtgibllaifnnfkaaGreatDoor.H
open Go.RowKit
theorem ret_int {k : IntKind} {a b : Int} (h : a = b) : Ending.returned (.int k a) = .returned (.int k b) := by rw [h]
theorem nat_mask6 (x : Nat) : x &&& 63 = x % 64 := by
  have := Nat.and_two_pow_sub_one_eq_mod x 6
  simpa using this
theorem and63 (k : Int) (h1 : -64 < k) (h2 : k < 0) : bits .and .u64 (IntKind.u64.wrap k) 63 = 64 + k := by
  have e : IntKind.u64.wrap k = 18446744073709551616 + k := by
    simp [IntKind.wrap, IntKind.bits, IntKind.signed]; omega
  rw [e]
  rw [show (63 : Int) = ((63 : Nat) : Int) from rfl]
  have := u64_and (18446744073709551616 + k) 63 (by omega) (by omega) (by omega) (by omega)
  rw [show ((63 : Nat) : Int) = (63 : Int) from rfl, this]
  rw [show (63 : Int).toNat = 63 from rfl, nat_mask6]
  omega
theorem sub_s (k : Int) (h1 : -64 < k) (h2 : k < 0) : IntKind.u64.wrap (64 - (64 + k)) = - k := by
  simp [IntKind.wrap, IntKind.bits, IntKind.signed]; omega
set_option maxHeartbeats 400000 in
theorem rot_any (x k : Int) (w : World) (h1 : -64 < k) (h2 : k < 0) :
    Calls Tryz.prog 107 #[.int .u64 x, .int .i64 k] w fun e w' => e = .returned (.int .u64 (rotl x (64 + k).toNat)) ∧ w' = w := by
  have hs := and63 k h1 h2
  have h3 : 0 ≤ 64 + k := by omega
  have hk := sub_s k h1 h2
  have h4 : 0 ≤ - k := by omega
  go_enter Tryz.func107, Tryz.ntmps107
  go_wp2
  go_ret
  refine ⟨ret_int ?_, rfl⟩
  unfold rotl
  rw [show 64 - (64 + k).toNat = (-k).toNat from by omega]
theorem and32 (x : Int) (h0 : 0 ≤ x) (h1 : x < 4294967296) : bits .and .u64 x 4294967295 = x := by
  rw [show (4294967295 : Int) = ((4294967295 : Nat) : Int) from rfl]
  have := u64_and x 4294967295 (by omega) (by omega) (by omega) (by omega)
  rw [show ((4294967295 : Nat) : Int) = (4294967295 : Int) from rfl, this]
  have e := Nat.and_two_pow_sub_one_eq_mod x.toNat 32
  rw [show (4294967295 : Int).toNat = 2 ^ 32 - 1 from rfl, e]
  omega
set_option maxHeartbeats 400000 in
theorem mul_any (x : Int) (w : World) (h0 : 0 ≤ x) (h1 : x ≤ 268435456) :
    Calls Tryz.prog 95 #[.int .u64 x, .int .u64 8] w fun e w' => e = .returned (.tuple #[.int .u64 0, .int .u64 (x * 8)]) ∧ w' = w := by
  have e1 := and32 x h0 (by omega)
  have e2 := and32 8 (by decide) (by decide)
  have e3 := and32 0 (by decide) (by decide)
  have e4 : x / 4294967296 = 0 := by omega
  have e5 : x * 8 / 4294967296 = 0 := by omega
  go_enter Tryz.func95, Tryz.ntmps95
  go_wp2
  go_ret2
  refine ⟨?_, rfl⟩
  rfl
set_option maxHeartbeats 400000 in
theorem word_any (b off len cap : Nat) (f : Nat → Int) (w : World) (hl : 8 ≤ len) (hc : len ≤ cap) (hb : BytesAt w b off 8 f) :
    Calls Tryz.prog 127 #[.slice (some ⟨b, off, none⟩) len cap] w fun e w' => e = .returned (.int .u64 (acc f 8)) ∧ w' = w := by
  have hci : (8 : Int) ≤ (cap : Int) := by omega
  go_enter Tryz.func127, Tryz.ntmps127
  go_wp2
  go_loop [3, 9] (fun v i => ∃ k : Nat, k ≤ 8 ∧ i = .int .i64 k ∧ v = .int .u64 (acc f k)) (fun _ i => 8 - (intOf i).toNat)
  case atStart => exact ⟨0, by omega, rfl, rfl⟩
  case round =>
    obtain ⟨k, hk, rfl, rfl⟩ := hrel
    by_cases hlt : k < 8
    · have hki : (k : Int) < 8 := by omega
      have hk0 : (0 : Int) ≤ (k : Int) := by omega
      obtain ⟨c, h0, h1⟩ := hb k hlt
      have Hacc : Hid (acc f (k + 1) = bits .or .u64 (IntKind.u64.wrap (acc f k * 256)) (f k)) := rfl
      generalize f k = y at *
      generalize acc f k = ac at *
      go_wp2
      go_round
      case rel => exact ⟨k + 1, by omega, by go_num, by rw [Hacc.out]⟩
      case measure => simp [intOf]; omega
    · have Hk : Hid (k = 8) := show k = 8 by omega
      have hki : ¬ (k : Int) < 8 := by omega
      go_wp2
      go_ret
      exact ⟨ret_int (by rw [Hk.out]), rfl⟩
def put8 (A : Array Value) (off : Nat) (x : Int) : Nat → Array Value
  | 0 => A
  | k + 1 => (put8 A off x k).setIfInBounds (off + k) (.int .u8 (byteAt x k))
theorem put8_size (A : Array Value) (off : Nat) (x : Int) : ∀ k, (put8 A off x k).size = A.size
  | 0 => rfl
  | k + 1 => by rw [put8, Array.size_setIfInBounds, put8_size A off x k]
theorem grown_setCell (w : World) (b i : Nat) (v : Value) : w.grownBy (w.setCell ⟨b, i, none⟩ v) (some b) :=
  ⟨rfl, rfl, rfl, by simp [World.setCell], fun k _ hk => Below.heap_setCell _ _ _ _ (fun e => hk (by rw [e]))⟩
theorem grown_trans {a b c : World} {r : Option Nat} (h : a.grownBy b r) (k : b.grownBy c r) : a.grownBy c r :=
  ⟨k.os.trans h.os, k.tape.trans h.tape, k.output.trans h.output, Nat.le_trans h.size k.size, fun i hi hr => (k.block i (Nat.lt_of_lt_of_le hi h.size) hr).trans (h.block i hi hr)⟩
theorem grown_refl (w : World) (r : Option Nat) : w.grownBy w r := ⟨rfl, rfl, rfl, Nat.le_refl _, fun _ _ _ => rfl⟩
set_option maxHeartbeats 400000 in
theorem putWord_own (b off len cap : Nat) (x : Int) (w : World) (A : Array Value) (t : TypeId) (ho : Own w b A t) (hfit : off + 8 ≤ A.size) (hl : 8 ≤ len) (_hc : len ≤ cap) (_hx : 0 ≤ x) (_hx' : x < 18446744073709551616) :
    Calls Tryz.prog 58 #[.slice (some ⟨b, off, none⟩) len cap, .int .u64 x] w fun e w' => e = .returned (.tuple #[]) ∧ Own w' b (put8 A off x 8) t ∧ w.grownBy w' (some b) := by
  have hli : (8 : Int) ≤ (len : Int) := by omega
  go_enter Tryz.func58, Tryz.ntmps58
  go_wp2
  go_loopw [5] (fun i wr => ∃ k : Nat, k ≤ 8 ∧ i = .int .i64 k ∧ Own wr b (put8 A off x k) t ∧ w.grownBy wr (some b)) (fun i _ => 8 - (intOf i).toNat)
  case atStart => exact ⟨0, by omega, rfl, ho, grown_refl _ _⟩
  case round =>
    clear ho
    obtain ⟨k, hk, rfl, ho, hg⟩ := hrel
    by_cases hlt : k < 8
    · have hki : (k : Int) < 8 := by omega
      have hk0 : (0 : Int) ≤ (k : Int) := by omega
      have hkl : (k : Int) < (len : Int) := by omega
      have hsz : off + k < (put8 A off x k).size := by rw [put8_size]; omega
      have c0 := ho.cell (Array.getElem?_eq_getElem hsz)
      have f0 := ho.frozen (off + k)
      go_wp2
      go_roundw
      case rel => exact ⟨k + 1, by omega, by go_num, ho.setCell _ _, grown_trans hg (grown_setCell _ _ _ _)⟩
      case measure => simp [intOf]; omega
    · have Hk : Hid (k = 8) := show k = 8 by omega
      have hki : ¬ (k : Int) < 8 := by omega
      go_wp2
      go_end0
      exact ⟨rfl, by rw [← Hk.out]; exact ho, hg⟩
end Go.Proofs.YtgibllaifnnfkaaGreatDoor.H
namespace Go.Proofs.YtgibllaifnnfkaaGreatDoor.H
open Go.RowKit
def wordsArr (l : List Int) : Array Value := ((l.map (Value.int .u64)) ++ List.replicate (80 - l.length) (Value.int .u64 0)).toArray
theorem wordsArr_size (l : List Int) (h : l.length ≤ 80) : (wordsArr l).size = 80 := by simp [wordsArr]; omega
theorem word_at (b off len cap n o : Nat) (f : Nat → Int) (w : World) (hl : 8 ≤ len) (hc : len ≤ cap) (hb : BytesAt w b off n f) (ho : o + 8 ≤ n) :
    Calls Tryz.prog 127 #[.slice (some ⟨b, off + o, none⟩) len cap] w fun e w' => e = .returned (.int .u64 (acc (fun j => f (o + j)) 8)) ∧ w' = w :=
  word_any b (off + o) len cap _ w hl hc (hb.part o 8 ho)
theorem wordsArr_new (l : List Int) (h : l.length < 80) : (wordsArr l)[l.length]? = some (.int .u64 0) := by
  simp [wordsArr, List.getElem?_append_right, List.getElem?_replicate]; omega
theorem wordsArr_old (l : List Int) (i : Nat) (h : i < l.length) : (wordsArr l)[i]? = some (.int .u64 (l.getD i 0)) := by
  simp [wordsArr, List.getElem?_append_left, h]
theorem wordsArr_set (l : List Int) (v : Int) (h : l.length < 80) : (wordsArr l).setIfInBounds l.length (.int .u64 v) = wordsArr (l ++ [v]) := by
  obtain ⟨n, hn⟩ : ∃ n, 80 - l.length = n + 1 := ⟨79 - l.length, by omega⟩
  have h2 : 80 - (l.length + 1) = n := by omega
  simp [wordsArr, hn, h2, List.replicate_succ]
theorem setCell_two (w : World) (x : Obj) (A : Array Value) (t : TypeId) (n k : Nat) (v : Value) :
    (((w.alloc x).alloc (.cells A t)).drewN n).setCell ⟨w.heap.size + 1, k, none⟩ v = ((w.alloc x).alloc (.cells (A.setIfInBounds k v) t)).drewN n := by
  have := World.setCell_alloc_new (w := w.alloc x) A t k v
  simp only [World.size_alloc] at this
  have e : ∀ (w : World) a v, (w.drewN n).setCell a v = (w.setCell a v).drewN n := fun _ _ _ => rfl
  rw [e, this]
theorem i64_sub (k : Nat) (c : Int) (h : k ≤ 80) (hc : 0 ≤ c) (hc' : c ≤ 80) : IntKind.i64.wrap ((k : Int) - c) = (k : Int) - c := by
  rw [IntKind.wrap_i64]; omega
theorem at_back (f : Nat → Int) (k c : Nat) (ci : Int) (hci : ci = c) (hk : k ≤ 80) (h : c ≤ k) (hc : 0 < c) : ∃ (i : Nat) (v : Int), IntKind.i64.wrap ((k : Int) - ci) = (i : Int) ∧ (wordsArr (sched f k))[i]? = some (.int .u64 v) ∧ (i : Int) < 80 ∧ (0 : Int) ≤ (i : Int) ∧ Hid (v = (sched f k).getD (k - c) 0) :=
  ⟨k - c, _, by rw [hci, i64_sub k c hk (by omega) (by omega)]; omega, wordsArr_old _ _ (by rw [sched_length]; omega), by omega, by omega, rfl⟩
theorem range_two (w : World) (x : Obj) (A : Array Value) (t : TypeId) (n : Nat) : (((w.alloc x).alloc (.cells A t)).drewN n).rangeAt (w.heap.size + 1) 0 A.toList := fun j v hv => by
  rw [World.cell?_drewN]
  have := cell_of_row ((w.alloc x).alloc (.cells A t)) (w.heap.size + 1) j A t (0, 0) (by have := heap_alloc_last (w.alloc x) (.cells A t); simpa using this)
  rw [Nat.zero_add, this]; simpa using hv
theorem there_first (w : World) (A : Array Value) (y : Obj) (t : TypeId) (n m : Nat) (h : m ≤ A.size) : (((w.alloc (.cells A t)).alloc y).drewN n).there w.heap.size 0 m := fun j hj => by
  have e : ((w.alloc (.cells A t)).alloc y).heap[w.heap.size]? = some (.cells A t) := by
    rw [Below.heap_alloc _ _ _ (by simp)]; exact heap_alloc_last w _
  constructor
  · rw [World.cell?_drewN, cell_of_row _ w.heap.size (0 + j) A t (0, 0) e]
    have : j < A.size := by omega
    simp [this]
  · rw [World.frozen?_drewN]; simp [World.frozen?, e]
theorem wordsArr_one (l : List Int) : (wordsArr l).all (·.oneCell') = true := all_oneCell_toArray fun v hv => by
  rcases List.mem_append.1 hv with h | h
  · obtain ⟨x, _, rfl⟩ := List.mem_map.1 h; rfl
  · obtain ⟨_, rfl⟩ := List.mem_replicate.1 h; rfl
theorem info43 : (Tryz.prog.info? 109).map (·.size) = some 80 := by kernel_rfl
theorem sched_first (f : Nat → Int) (k : Nat) (h : k < 16) : wordsArr (sched f (k + 1)) = (wordsArr (sched f k)).setIfInBounds k (.int .u64 (acc (fun j => f (8 * k + j)) 8)) := by
  have e := sched_length f k
  have := wordsArr_set (sched f k) (nextW f (sched f k)) (by omega)
  rw [e] at this
  rw [sched, ← this, nextW, e, if_pos h]
theorem sched_later (f : Nat → Int) (k : Nat) (h : 16 ≤ k) (h' : k < 80) : wordsArr (sched f (k + 1)) = (wordsArr (sched f k)).setIfInBounds k (.int .u64 (add4 ((sched f k).getD (k - 16) 0) (sig0 ((sched f k).getD (k - 15) 0)) ((sched f k).getD (k - 7) 0) (sig1 ((sched f k).getD (k - 2) 0)))) := by
  have e := sched_length f k
  have := wordsArr_set (sched f k) (nextW f (sched f k)) (by omega)
  rw [e] at this
  rw [sched, ← this, nextW, e, if_neg (by omega)]
theorem below_two (w : World) (x y : Obj) (n : Nat) : Below w.heap.size w (((w.alloc x).alloc y).drewN n) :=
  below_drewN (((Below.refl _ _).alloc (Nat.le_refl _) _).alloc (by simp) _) n
theorem zero43 : (Tryz.prog.info? 109).map (fun i => (i.zero, i.size)) = some (some (.agg (wordsArr [])), 80) := by kernel_rfl
set_option maxRecDepth 100000 in
set_option maxHeartbeats 400000 in
theorem sched_any (b off len cap : Nat) (f : Nat → Int) (w : World) (hl : 128 ≤ len) (hc : len ≤ cap) (hcap : cap ≤ maxLen) (hb : BytesAt w b off 128 f) :
    Calls Tryz.prog 116 #[.slice (some ⟨b, off, none⟩) len cap] w fun e w' => e = .returned (.agg (wordsArr (sched f 80))) ∧ Below w.heap.size w w' := by
  unfold maxLen at hcap
  have hz := (zero_of_info zero43).1
  go_enter Tryz.func116, Tryz.ntmps116
  go_wp2
  go_loopw [10] (fun i wr => ∃ k n : Nat, k ≤ 16 ∧ i = .int .i64 k ∧ wr = ((w.alloc (.cells (wordsArr []) 109)).alloc (.cells (wordsArr (sched f k)) 109)).drewN n) (fun i _ => 16 - (intOf i).toNat)
  case atStart => exact ⟨0, 0, by omega, rfl, rfl⟩
  case round =>
    obtain ⟨k, n, hk, rfl, rfl⟩ := hrel
    by_cases hlt : k < 16
    · go_wp2_with fail
      refine (word_at b off (len - 8 * k) (cap - 8 * k) 128 (8 * k) f _ (by omega) (by omega) (hb.below (below_two _ _ _ _)) (by omega)).mono ?_
      rintro e w' ⟨rfl, rfl⟩
      have hg := wordsArr_new (sched f k) (by rw [sched_length]; omega)
      rw [sched_length] at hg
      go_wp2
      go_roundw
      case rel =>
        refine ⟨k + 1, n, by omega, by go_num, ?_⟩
        rw [setCell_two, ← sched_first f k hlt]
      case measure => simp [intOf]; omega
    · have hk16 : Hid (k = 16) := show k = 16 by omega
      go_wp2
      clear hlt hk
      go_loopw [5] (fun i wr => ∃ k n : Nat, 16 ≤ k ∧ k ≤ 80 ∧ i = .int .i64 k ∧ wr = ((w.alloc (.cells (wordsArr []) 109)).alloc (.cells (wordsArr (sched f k)) 109)).drewN n) (fun i _ => 80 - (intOf i).toNat)
      case atStart => exact ⟨k, n, by have := hk16.out; omega, by have := hk16.out; omega, by rw [hk16.out]; rfl, rfl⟩
      case round =>
        clear hk16
        obtain ⟨k, m, hk1, hk, rfl, rfl⟩ := hrel
        by_cases hlt : k < 80
        · obtain ⟨i15, v15, w15, g15, p15, q15, H15⟩ := at_back f k 15 15 rfl hk (by omega) (by decide)
          obtain ⟨i2, v2, w2, g2, p2, q2, H2⟩ := at_back f k 2 2 rfl hk (by omega) (by decide)
          obtain ⟨i16, v16, w16, g16, p16, q16, H16⟩ := at_back f k 16 16 rfl hk (by omega) (by decide)
          obtain ⟨i7, v7, w7, g7, p7, q7, H7⟩ := at_back f k 7 7 rfl hk (by omega) (by decide)
          have hg := wordsArr_new (sched f k) (by rw [sched_length]; omega)
          rw [sched_length] at hg
          have hki : (k : Int) < 80 := by omega
          go_wp2
          go_quiet (fail)
          go_wp2_with (go_at_call 107; refine (rot_any _ _ _ (by decide) (by decide)).mono ?_; rintro e w' ⟨rfl, rfl⟩)
          go_region
          go_wp2
          go_roundw
          case rel =>
            refine ⟨k + 1, m + nq + 1, by omega, by omega, by go_num, ?_⟩
            rw [setCell_two, sched_later f k hk1 hlt, ← H16.out, ← H15.out, ← H7.out, ← H2.out]
            rfl
          case measure => simp [intOf]; omega
        · have hk64 : Hid (k = 80) := show k = 80 by omega
          have hi : (Tryz.prog.info? 109).map (·.size) = some (wordsArr (sched f k)).toList.length := by
            rw [info43, Array.length_toList, wordsArr_size _ (by rw [sched_length]; omega)]
          have hi' : (Tryz.prog.info? 109).map (·.size) = some (wordsArr (sched f k)).size := by rw [hi, Array.length_toList]
          have ht := there_first w (wordsArr []) (.cells (wordsArr (sched f k)) 109) 109 (m) (wordsArr (sched f k)).size (by rw [wordsArr_size _ (by rw [sched_length]; omega)]; exact Nat.le_refl _)
          have h1 := wordsArr_one (sched f k)
          go_upto_region 14 with fail
          go_wp2_with (first | refine wpList_load_mid (by rfl) 109 (.tmp 3) (by rfl) (w.heap.size + 1) 0 (by rfl) (wordsArr (sched f k)).toList _ (range_two _ _ _ _ _) Tryz.underlying109 (by rfl) hi ?_ | refine wpList_store_mid (by rfl) 109 (.tmp 2) (.tmp 64) (by rfl) w.heap.size 0 (wordsArr (sched f k)) (by rfl) (by rfl) ht hi' h1 ?_)
          refine bodyPost_ret (v := .agg (wordsArr (sched f k))) ?_ rfl ⟨by rw [hk64.out], ?_⟩
          · exact results_cell Tryz.results116 _ _ w.heap.size 0 (wordsArr (sched f k)).toList _ rfl (World.rangeAt_setCells_same _ _ _ _ (by simpa using ht)) Tryz.underlying109 (by rfl) hi
          · exact Below.setCells _ _ _ _ (Nat.le_refl _) (below_two _ _ _ _)
end Go.Proofs.YtgibllaifnnfkaaGreatDoor.H
namespace Go.Proofs.YtgibllaifnnfkaaGreatDoor.H
open Go.RowKit
def TabK (w : World) : Prop := 7 < w.heap.size ∧ ∀ i, i < 80 → w.cell? ⟨7, i, none⟩ = some (.int .u64 (kays.getD i 0))
theorem TabK.below {w w' : World} (h : TabK w) (hB : Below w.heap.size w w') : TabK w' :=
  ⟨Nat.lt_of_lt_of_le h.1 hB.size, fun i hi => by rw [hB.cell (p := ⟨7, i, none⟩) h.1]; exact h.2 i hi⟩
theorem stArr_one (s : St) : (stArr s).all (·.oneCell') = true := by simp [stArr, Value.oneCell']
theorem info36 : (Tryz.prog.info? 80).map (·.size) = some 8 := by kernel_rfl
theorem info35 : (Tryz.prog.info? 52).map (·.size) = some 1 := by kernel_rfl
set_option maxRecDepth 100000 in
set_option maxHeartbeats 400000 in
theorem mix_any (b off len cap : Nat) (f : Nat → Int) (s : St) (w : World) (hl : 128 ≤ len) (hc : len ≤ cap) (hcap : cap ≤ maxLen) (hb : BytesAt w b off 128 f) (hT : TabK w) :
    Calls Tryz.prog 94 #[s.val, .slice (some ⟨b, off, none⟩) len cap] w fun e w' => e = .returned (mixS s f).val ∧ Below w.heap.size w w' := by
  unfold St.val stArr
  have hz := (zero_of_info zero43).1
  go_enter Tryz.func94, Tryz.ntmps94
  go_wp2_with fail
  refine (sched_any b off len cap f _ hl hc hcap (hb.below (((Below.refl _ _).alloc (Nat.le_refl _) _).alloc (by simp) _))).mono ?_
  rintro e w1 ⟨rfl, hB⟩
  have ws64 := wordsArr_size (sched f 80) (by rw [sched_length]; exact Nat.le_refl _)
  have hi' : (Tryz.prog.info? 109).map (·.size) = some (wordsArr (sched f 80)).size := by rw [info43, ws64]
  have h1 := wordsArr_one (sched f 80)
  have hws : ∀ i, i < 80 → (wordsArr (sched f 80))[i]? = some (.int .u64 ((sched f 80).getD i 0)) := fun i hi => wordsArr_old _ _ (by rw [sched_length]; exact hi)
  have o0 := ((own_new w _ 80).alloc _).below hB (by simp; omega)
  have o1 := (own_new (w.alloc _) _ 80).below hB (by simp)
  rw [World.size_alloc] at o1
  have hb1 : Below w.heap.size w w1 := (((Below.refl _ _).alloc (Nat.le_refl _) _).alloc (by simp) _).trans (hB.mono (by simp; omega))
  generalize wordsArr (sched f 80) = ws at *
  clear hB
  go_wp2_with (refine wpList_store_new (by rfl) 109 (.tmp 5) (.tmp 23) (by rfl) _ ws (by rfl) (by rfl) hi' (by rw [ws64]; rfl) h1 (by rfl) ?_)
  have oM := own_new w1 ws 109
  have o0 := o0.alloc (.cells ws 109)
  have o1 := o1.alloc (.cells ws 109)
  have hb2 := hb1.alloc hb1.size (.cells ws 109)
  generalize w1.alloc (.cells ws 109) = W at *
  generalize w1.heap.size = M at *
  clear hb1
  have hTW := hT.below hb2
  have c0 := o0.cell (i := 0) rfl
  have c1 := o0.cell (i := 1) rfl
  have c2 := o0.cell (i := 2) rfl
  have c3 := o0.cell (i := 3) rfl
  have c4 := o0.cell (i := 4) rfl
  have c5 := o0.cell (i := 5) rfl
  have c6 := o0.cell (i := 6) rfl
  have c7 := o0.cell (i := 7) rfl
  go_quiet (fail)
  rename Nat => n1
  go_wp2
  go_quiet (fail)
  rename Nat => n2
  go_upto_region 4 with fail
  go_wp2_with (refine wpList_load_own (by rfl) 109 (.tmp 5) (by rfl) M (by rfl) ws _ ((oM.drewN _).drewN _) Tryz.underlying109 (by rfl) hi' ?_)
  obtain ⟨wf, hwf⟩ : ∃ wf : Nat → Int, wf = fun i => (sched f 80).getD i 0 := ⟨_, rfl⟩
  have hws : ∀ i, i < 80 → ws[i]? = some (.int .u64 (wf i)) := fun i hi => by rw [hwf]; exact hws i hi
  have Hwf : Hid (wf = fun i => (sched f 80).getD i 0) := hwf
  clear hwf
  go_loop [6, 7, 8, 9, 10, 11, 12, 13, 41] (fun ra rb rc rd re rf rg rh i => ∃ (k : Nat) (r : St), k ≤ 80 ∧ Hid (r = rnds wf s k) ∧ i = .int .i64 k ∧ ra = .int .u64 r.a ∧ rb = .int .u64 r.b ∧ rc = .int .u64 r.c ∧ rd = .int .u64 r.d ∧ re = .int .u64 r.e ∧ rf = .int .u64 r.f ∧ rg = .int .u64 r.g ∧ rh = .int .u64 r.h) (fun _ _ _ _ _ _ _ _ i => 80 - (intOf i).toNat)
  case atStart => exact ⟨0, s, by omega, rfl, rfl, rfl, rfl, rfl, rfl, rfl, rfl, rfl, rfl⟩
  case round =>
    obtain ⟨k, r, hk, Hr, rfl, rfl, rfl, rfl, rfl, rfl, rfl, rfl, rfl⟩ := hrel
    by_cases hlt : k < 80
    · have hki : (k : Int) < 80 := by omega
      have hk0 : (0 : Int) ≤ (k : Int) := by omega
      have hk64 : k < ws.size := by omega
      have hw := hws k hlt
      have hidx : ∀ w', (Instr.index 109 (.agg ws) (.int .i64 (k : Int))).run Tryz.prog w' = .ok (.int .u64 (wf k)) w' := fun w' => run_index_arr Tryz.underlying109 Tryz.underlying52 info35 ws k _ hlt hw w'
      have hg := hTW.2 k hlt
      have Hst : Hid (rnds wf s (k + 1) = rnd (kays.getD k 0) (wf k) (rnds wf s k)) := rfl
      generalize kays.getD k 0 = kk at *
      generalize wf k = wk at *
      go_wp2_with (go_at_call 107; refine (rot_any _ _ _ (by decide) (by decide)).mono ?_; rintro e w' ⟨rfl, rfl⟩)
      go_roundw
      case rel => 
        exact ⟨k + 1, rnd kk wk r, by omega, by rw [Hr.out]; exact Hst.out.symm, by go_num, rfl, rfl, rfl, rfl, rfl, rfl, rfl, rfl⟩
      case measure => simp [intOf]; omega
    · have Hk : Hid (k = 80) := show k = 80 by omega
      go_upto_region 16 with fail
      go_wp2_with (refine wpList_store_own (by rfl) 80 (.tmp 4) (.tmp 139) (by rfl) (w.heap.size + 1) 0 (stArr (addSt s r)) (by rfl) (by rfl) (o1.drewN _) (Nat.le_refl _) info36 (stArr_one _) (by rfl) ?_)
      refine bodyPost_ret (results_own Tryz.results94 _ _ (w.heap.size + 1) (stArr (addSt s r)) _ rfl (own_setCells (o1.drewN _) rfl) Tryz.underlying80 rfl info36) rfl ⟨?_, ?_⟩
      · rw [Hr.out, Hk.out, Hwf.out]; rfl
      · exact Below.setCells _ _ _ _ (Nat.le_succ _) (below_drewN hb2 _)
end Go.Proofs.YtgibllaifnnfkaaGreatDoor.H
namespace Go.Proofs.YtgibllaifnnfkaaGreatDoor.H
open Go.RowKit
theorem info5 : (Tryz.prog.info? 5).map (fun i => (i.zero, i.size, i.bytes)) = some (some (.int .u8 0), 1, 1) := by kernel_rfl
theorem put8_list (L1 L2 : List Value) (x : Int) (off : Nat) (h : off = L1.length) : put8 (L1 ++ (List.replicate 8 (Value.int .u8 0) ++ L2)).toArray off x 8 = (L1 ++ (u8s (be8 x) ++ L2)).toArray := by
  subst h
  simp [put8, u8s, be8, List.replicate_succ]
theorem below_grown {B : Nat} {a w w' : World} {b : Nat} (h : Below B a w) (hg : w.grownBy w' (some b)) (hB : B ≤ w.heap.size) (hb : B ≤ b) : Below B a w' :=
  h.grown hg hB (fun k e => by cases e; exact hb)
theorem pad_array (n q : Nat) (h : noughts n = q) : (u8s (padL n)).toArray = put8 (put8 ((Array.replicate (1 + q + 16) (Value.int .u8 0)).setIfInBounds 0 (Value.int .u8 128)) (1 + q) 0 8) (1 + q + 8) ((n : Int) * 8) 8 := by
  have e : (Array.replicate (1 + q + 16) (Value.int .u8 0)).setIfInBounds 0 (Value.int .u8 128) = ((Value.int .u8 128 :: List.replicate q (Value.int .u8 0)) ++ (List.replicate 8 (Value.int .u8 0) ++ (List.replicate 8 (Value.int .u8 0) ++ []))).toArray := by
    apply Array.ext'
    rw [show 1 + q + 16 = (q + 16) + 1 from by omega]
    rw [Array.toList_setIfInBounds, Array.toList_replicate, List.replicate_succ, List.set_cons_zero, List.append_nil, List.replicate_append_replicate, List.cons_append, List.replicate_append_replicate]
  rw [e, put8_list _ _ _ _ (by simp; omega)]
  have e2 : ((Value.int .u8 128 :: List.replicate q (Value.int .u8 0)) ++ (u8s (be8 0) ++ (List.replicate 8 (Value.int .u8 0) ++ []))) = ((Value.int .u8 128 :: List.replicate q (Value.int .u8 0)) ++ u8s (be8 0)) ++ (List.replicate 8 (Value.int .u8 0) ++ []) := by rw [List.append_assoc]
  rw [e2, put8_list _ _ _ _ (by simp [u8s, be8]; omega)]
  simp [padL, u8s, h]
set_option maxRecDepth 100000 in
set_option maxHeartbeats 400000 in
theorem pad_any (n : Nat) (w : World) (hn : n ≤ 16777216) :
    Calls Tryz.prog 57 #[.int .i64 n] w fun e w' => e = .returned (.slice (some ⟨w.heap.size, 0, none⟩) (padL n).length (padL n).length) ∧ Own w' w.heap.size (u8s (padL n)).toArray 5 ∧ Below w.heap.size w w' := by
  rw [padL_length]
  obtain ⟨q, hq, Hn⟩ : ∃ q : Nat, (128 - ((n : Int) % 128 + 1 + 16) % 128) % 128 = (q : Int) ∧ Hid (noughts n = q) := ⟨noughts n, by unfold noughts; omega, rfl⟩
  have hq127 : q ≤ 127 := by omega
  have Hq := show Hid _ from hq
  clear hq
  rw [Hn.out]
  go_enter Tryz.func57, Tryz.ntmps57
  go_upto_region 3 with fail
  rw [Hq.out]
  have e1 : (1 : Int) + (q : Int) + 16 = ((1 + q + 16 : Nat) : Int) := by omega
  have E1 := show Hid _ from e1
  clear e1
  go_wp2_with (first
    | (at_make; refine wpList_make_cells _ (by rfl) _ _ 23 (by rfl) 5 _ Tryz.underlying23 info5 (by rfl) .i64 .i64 _ _ (1 + q + 16) (by rfl) (by rfl) E1.out E1.out (by omega) (by unfold maxLen; omega) ?_; intro w1 ho hgr; have c0 := ho.cell (i := 0) (by simp; rfl); have f0 := ho.frozen 0)
    | (go_at_call 95; refine (mul_any _ _ (by omega) (by omega)).mono ?_; rintro e w' ⟨rfl, rfl⟩))
  clear c0 f0
  have ho := ho.setCell 0 (.int .u8 128)
  have hgr' := (Below.refl w.heap.size w).grown hgr (Nat.le_refl _) (fun k e => by cases e)
  have hB := below_grown hgr' (grown_setCell w1 w.heap.size 0 (.int .u8 128)) hgr.size (Nat.le_refl _)
  generalize w1.setCell ⟨w.heap.size, 0, none⟩ (.int .u8 128) = w2 at *
  refine (putWord_own _ _ _ _ _ _ _ _ ho (by simp) (by omega) (by omega) (by omega) (by omega)).mono ?_
  rintro e w3 ⟨rfl, ho3, hg3⟩
  have s3 : (put8 ((Array.replicate (1 + q + 16) (Value.int .u8 0)).setIfInBounds 0 (.int .u8 128)) (1 + q) 0 8).size = 1 + q + 16 := by rw [put8_size]; simp
  go_wp2_with fail
  refine (putWord_own _ _ _ _ _ _ _ _ ho3 (by rw [s3]; omega) (by omega) (by omega) (by omega) (by omega)).mono ?_
  rintro e w4 ⟨rfl, ho4, hg4⟩
  go_wp2
  go_ret
  refine ⟨rfl, ?_, below_grown (below_grown hB hg3 hB.size (Nat.le_refl _)) hg4 (Nat.le_trans hB.size hg3.size) (Nat.le_refl _)⟩
  rw [show (u8s (padL n)).toArray = _ from pad_array n q Hn.out]
  exact ho4
end Go.Proofs.YtgibllaifnnfkaaGreatDoor.H
