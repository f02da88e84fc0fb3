/- SHA-512 as plain functions of whole numbers, in the words of the program's own operations. -/
import Derived.WalkKit
import Derived.Laws.BitsAllLaws
import Derived.Laws.CopyOwn
namespace Go.Proofs.YtbofcnmhdjleeaaDoor

/-- A word turned to the left by s places. -/
def rotl (x : Int) (s : Nat) : Int := bits .or .u64 (IntKind.u64.wrap (x * 2 ^ s)) (x / 2 ^ (64 - s))
/-- A word gathered of its first n bytes, the highest first. -/
def acc (f : Nat → Int) : Nat → Int
  | 0 => 0
  | j + 1 => bits .or .u64 (IntKind.u64.wrap (acc f j * 256)) (f j)
theorem acc_congr {f g : Nat → Int} : ∀ n, (∀ i, i < n → f i = g i) → acc f n = acc g n
  | 0, _ => rfl
  | n + 1, h => by rw [acc, acc, acc_congr n (fun i hi => h i (by omega)), h n (by omega)]
def xr (a b : Int) : Int := bits .xor .u64 a b
def sig0 (x : Int) : Int := xr (xr (rotl x 63) (rotl x 56)) (x / 128)
def sig1 (x : Int) : Int := xr (xr (rotl x 45) (rotl x 3)) (x / 64)
def big0 (x : Int) : Int := xr (xr (rotl x 36) (rotl x 30)) (rotl x 25)
def big1 (x : Int) : Int := xr (xr (rotl x 50) (rotl x 46)) (rotl x 23)

/-- Four words added, one behind the other. -/
def add4 (a b c d : Int) : Int := IntKind.u64.wrap (IntKind.u64.wrap (IntKind.u64.wrap (a + b) + c) + d)
/-- The next word of a schedule whose first ones are l. -/
def nextW (f : Nat → Int) (l : List Int) : Int :=
  if l.length < 16 then acc (fun j => f (8 * l.length + j)) 8
  else add4 (l.getD (l.length - 16) 0) (sig0 (l.getD (l.length - 15) 0)) (l.getD (l.length - 7) 0) (sig1 (l.getD (l.length - 2) 0))
/-- The first n words of the schedule of a block. -/
def sched (f : Nat → Int) : Nat → List Int
  | 0 => []
  | n + 1 => sched f n ++ [nextW f (sched f n)]
theorem sched_length (f : Nat → Int) : ∀ n, (sched f n).length = n
  | 0 => rfl
  | n + 1 => by simp [sched, sched_length f n]

/-- The word of each round. -/
def kays : List Int := [4794697086780616226, 8158064640168781261, 13096744586834688815, 16840607885511220156, 4131703408338449720, 6480981068601479193, 10538285296894168987, 12329834152419229976, 15566598209576043074, 1334009975649890238, 2608012711638119052, 6128411473006802146, 8268148722764581231, 9286055187155687089, 11230858885718282805, 13951009754708518548, 16472876342353939154, 17275323862435702243, 1135362057144423861, 2597628984639134821, 3308224258029322869, 5365058923640841347, 6679025012923562964, 8573033837759648693, 10970295158949994411, 12119686244451234320, 12683024718118986047, 13788192230050041572, 14330467153632333762, 15395433587784984357, 489312712824947311, 1452737877330783856, 2861767655752347644, 3322285676063803686, 5560940570517711597, 5996557281743188959, 7280758554555802590, 8532644243296465576, 9350256976987008742, 10552545826968843579, 11727347734174303076, 12113106623233404929, 14000437183269869457, 14369950271660146224, 15101387698204529176, 15463397548674623760, 17586052441742319658, 1182934255886127544, 1847814050463011016, 2177327727835720531, 2830643537854262169, 3796741975233480872, 4115178125766777443, 5681478168544905931, 6601373596472566643, 7507060721942968483, 8399075790359081724, 8693463985226723168, 9568029438360202098, 10144078919501101548, 10430055236837252648, 11840083180663258601, 13761210420658862357, 14299343276471374635, 14566680578165727644, 15097957966210449927, 16922976911328602910, 17689382322260857208, 500013540394364858, 748580250866718886, 1242879168328830382, 1977374033974150939, 2944078676154940804, 3659926193048069267, 4368137639120453308, 4836135668995329356, 5532061633213252278, 6448918945643986474, 6902733635092675308, 7801388544844847127]
/-- The state of eight words. -/
structure St where
  a : Int
  b : Int
  c : Int
  d : Int
  e : Int
  f : Int
  g : Int
  h : Int
def start : St := ⟨7640891576956012808, 13503953896175478587, 4354685564936845355, 11912009170470909681, 5840696475078001361, 11170449401992604703, 2270897969802886507, 6620516959819538809⟩
def stArr (s : St) : Array Value := #[.int .u64 s.a, .int .u64 s.b, .int .u64 s.c, .int .u64 s.d, .int .u64 s.e, .int .u64 s.f, .int .u64 s.g, .int .u64 s.h]
def St.val (s : St) : Value := .agg (stArr s)
/-- One round. -/
def ones : Int := if IntKind.u64.signed = true then -1 else IntKind.u64.max
def an (a b : Int) : Int := bits .and .u64 a b
def ch (e f g : Int) : Int := xr (an e f) (an (xr ones e) g)
def maj (a b c : Int) : Int := xr (xr (an a b) (an a c)) (an b c)
def tone (k x : Int) (s : St) : Int := IntKind.u64.wrap (add4 s.h (big1 s.e) (ch s.e s.f s.g) k + x)
def ttwo (s : St) : Int := IntKind.u64.wrap (big0 s.a + maj s.a s.b s.c)
def rnd (k x : Int) (s : St) : St := ⟨IntKind.u64.wrap (tone k x s + ttwo s), s.a, s.b, s.c, IntKind.u64.wrap (s.d + tone k x s), s.e, s.f, s.g⟩
/-- The first n rounds. -/
def rnds (wf : Nat → Int) (s : St) : Nat → St
  | 0 => s
  | n + 1 => rnd (kays.getD n 0) (wf n) (rnds wf s n)
/-- The state with what the rounds made of it added, word by word. -/
def addSt (s r : St) : St := ⟨IntKind.u64.wrap (s.a + r.a), IntKind.u64.wrap (s.b + r.b), IntKind.u64.wrap (s.c + r.c), IntKind.u64.wrap (s.d + r.d), IntKind.u64.wrap (s.e + r.e), IntKind.u64.wrap (s.f + r.f), IntKind.u64.wrap (s.g + r.g), IntKind.u64.wrap (s.h + r.h)⟩
/-- The state behind one block more. -/
def mixS (s : St) (f : Nat → Int) : St := addSt s (rnds (fun i => (sched f 80).getD i 0) s 80)
/-- A word's byte at place i, the highest first. -/
def byteAt (x : Int) (i : Nat) : Int := x / 2 ^ (56 - 8 * i) % 256
/-- A word's eight bytes, the highest first. -/
def be8 (x : Int) : List Int := [byteAt x 0, byteAt x 1, byteAt x 2, byteAt x 3, byteAt x 4, byteAt x 5, byteAt x 6, byteAt x 7]
/-- How many noughts stand between the one bit's byte and the length. -/
def noughts (n : Nat) : Nat := (128 - (n % 128 + 1 + 16) % 128) % 128
/-- What makes a text of n bytes whole blocks. -/
def padL (n : Nat) : List Int := 128 :: (List.replicate (noughts n) 0 ++ (be8 0 ++ be8 ((n : Int) * 8)))
theorem padL_length (n : Nat) : (padL n).length = 1 + noughts n + 16 := by simp [padL, be8]; omega
theorem padL_whole (n : Nat) : (n + (padL n).length) % 128 = 0 := by rw [padL_length]; unfold noughts; omega
/-- Whole numbers as bytes of memory. -/
def u8s (l : List Int) : List Value := l.map (Value.int .u8)
/-- Bytes, each in its range. -/
def Bys (l : List Int) : Prop := ∀ x ∈ l, 0 ≤ x ∧ x < 256
theorem byteAt_range (x : Int) (i : Nat) : 0 ≤ byteAt x i ∧ byteAt x i < 256 := by unfold byteAt; generalize x / 2 ^ (56 - 8 * i) = y; omega
theorem be8_bys (x : Int) : Bys (be8 x) := by
  intro y hy
  simp only [be8, List.mem_cons, List.not_mem_nil, or_false] at hy
  rcases hy with rfl | rfl | rfl | rfl | rfl | rfl | rfl | rfl <;> exact byteAt_range _ _
theorem padL_bys (n : Nat) : Bys (padL n) := by
  intro y hy
  simp only [padL, List.mem_cons, List.mem_append, List.mem_replicate] at hy
  rcases hy with rfl | ⟨_, rfl⟩ | hy | hy
  · omega
  · omega
  · exact be8_bys _ y hy
  · exact be8_bys _ y hy
end Go.Proofs.YtbofcnmhdjleeaaDoor
