/- SHA-256 as plain functions of whole numbers, in the words of the program's own operations. -/
import Derived.WalkKit
import Derived.Laws.BitsAllLaws
import Derived.Laws.CopyOwn
namespace Go.Proofs.YtgibllaifnnfkaaDoor.J

/-- A word turned to the left by s places. -/
def rotl (x : Int) (s : Nat) : Int := bits .or .u32 (x * 2 ^ s % 4294967296) (x / 2 ^ (32 - s))
/-- A word of four bytes, the highest first. -/
def word4 (a b c d : Int) : Int := bits .or .u32 (bits .or .u32 (bits .or .u32 (a * 16777216) (b * 65536)) (c * 256)) d
def xr (a b : Int) : Int := bits .xor .u32 a b
def sig0 (x : Int) : Int := xr (xr (rotl x 25) (rotl x 14)) (x / 8)
def sig1 (x : Int) : Int := xr (xr (rotl x 15) (rotl x 13)) (x / 1024)
def big0 (x : Int) : Int := xr (xr (rotl x 30) (rotl x 19)) (rotl x 10)
def big1 (x : Int) : Int := xr (xr (rotl x 26) (rotl x 21)) (rotl x 7)
def ad (a b : Int) : Int := (a + b) % 4294967296

/-- The next word of a schedule whose first ones are l. -/
def nextW (f : Nat → Int) (l : List Int) : Int :=
  if l.length < 16 then word4 (f (4 * l.length)) (f (4 * l.length + 1)) (f (4 * l.length + 2)) (f (4 * l.length + 3))
  else (l.getD (l.length - 16) 0 + sig0 (l.getD (l.length - 15) 0) + l.getD (l.length - 7) 0 + sig1 (l.getD (l.length - 2) 0)) % 4294967296
/-- The first n words of the schedule of a block. -/
def sched (f : Nat → Int) : Nat → List Int
  | 0 => []
  | n + 1 => sched f n ++ [nextW f (sched f n)]
theorem sched_length (f : Nat → Int) : ∀ n, (sched f n).length = n
  | 0 => rfl
  | n + 1 => by simp [sched, sched_length f n]

theorem bits_u32 (op : BinOp) (a b : Int) : 0 ≤ bits op .u32 a b ∧ bits op .u32 a b < 4294967296 := by
  have h : ∀ x : Int, 0 ≤ IntKind.u32.wrap x ∧ IntKind.u32.wrap x < 4294967296 := fun x => by rw [IntKind.wrap_u32]; omega
  unfold bits
  cases op <;> first | exact h _ | exact ⟨by decide, by decide⟩
/-- The word of each round. -/
def kays : List Int := [1116352408, 1899447441, 3049323471, 3921009573, 961987163, 1508970993, 2453635748, 2870763221, 3624381080, 310598401, 607225278, 1426881987, 1925078388, 2162078206, 2614888103, 3248222580, 3835390401, 4022224774, 264347078, 604807628, 770255983, 1249150122, 1555081692, 1996064986, 2554220882, 2821834349, 2952996808, 3210313671, 3336571891, 3584528711, 113926993, 338241895, 666307205, 773529912, 1294757372, 1396182291, 1695183700, 1986661051, 2177026350, 2456956037, 2730485921, 2820302411, 3259730800, 3345764771, 3516065817, 3600352804, 4094571909, 275423344, 430227734, 506948616, 659060556, 883997877, 958139571, 1322822218, 1537002063, 1747873779, 1955562222, 2024104815, 2227730452, 2361852424, 2428436474, 2756734187, 3204031479, 3329325298]
/-- The state of eight words. -/
structure St where
  a : Int
  b : Int
  c : Int
  d : Int
  e : Int
  f : Int
  g : Int
  h : Int
def start : St := ⟨1779033703, 3144134277, 1013904242, 2773480762, 1359893119, 2600822924, 528734635, 1541459225⟩
def stArr (s : St) : Array Value := #[.int .u32 s.a, .int .u32 s.b, .int .u32 s.c, .int .u32 s.d, .int .u32 s.e, .int .u32 s.f, .int .u32 s.g, .int .u32 s.h]
def St.val (s : St) : Value := .agg (stArr s)
/-- One round. -/
def ones : Int := if IntKind.u32.signed = true then -1 else IntKind.u32.max
def an (a b : Int) : Int := bits .and .u32 a b
def ch (e f g : Int) : Int := xr (an e f) (an (xr ones e) g)
def maj (a b c : Int) : Int := xr (xr (an a b) (an a c)) (an b c)
def tone (k x : Int) (s : St) : Int := (s.h + big1 s.e + ch s.e s.f s.g + k + x) % 4294967296
def ttwo (s : St) : Int := (big0 s.a + maj s.a s.b s.c) % 4294967296
def rnd (k x : Int) (s : St) : St := ⟨(tone k x s + ttwo s) % 4294967296, s.a, s.b, s.c, (s.d + tone k x s) % 4294967296, s.e, s.f, s.g⟩
/-- The first n rounds. -/
def rnds (wf : Nat → Int) (s : St) : Nat → St
  | 0 => s
  | n + 1 => rnd (kays.getD n 0) (wf n) (rnds wf s n)
/-- The state with what the rounds made of it added, word by word. -/
def addSt (s r : St) : St := ⟨(s.a + r.a) % 4294967296, (s.b + r.b) % 4294967296, (s.c + r.c) % 4294967296, (s.d + r.d) % 4294967296, (s.e + r.e) % 4294967296, (s.f + r.f) % 4294967296, (s.g + r.g) % 4294967296, (s.h + r.h) % 4294967296⟩
/-- The state behind one block more. -/
def mixS (s : St) (f : Nat → Int) : St := addSt s (rnds (fun i => (sched f 64).getD i 0) s 64)
/-- A word's four bytes, the highest first. -/
def be4 (x : Int) : List Int := [x / 16777216, x / 65536 % 256, x / 256 % 256, x % 256]
/-- How many noughts stand between the one bit's byte and the length. -/
def noughts (n : Nat) : Nat := (64 - (n % 64 + 1 + 8) % 64) % 64
/-- What makes a text of n bytes whole blocks. -/
def padL (n : Nat) : List Int := 128 :: (List.replicate (noughts n) 0 ++ (be4 ((n : Int) * 8 / 4294967296) ++ be4 ((n : Int) * 8 % 4294967296)))
theorem padL_length (n : Nat) : (padL n).length = 1 + noughts n + 8 := by simp [padL, be4]; omega
theorem padL_whole (n : Nat) : (n + (padL n).length) % 64 = 0 := by rw [padL_length]; unfold noughts; omega
/-- Whole numbers as bytes of memory. -/
def u8s (l : List Int) : List Value := l.map (Value.int .u8)
/-- Bytes, each in its range. -/
def Bys (l : List Int) : Prop := ∀ x ∈ l, 0 ≤ x ∧ x < 256
theorem be4_bys (x : Int) (h : 0 ≤ x) (h' : x < 4294967296) : Bys (be4 x) := by
  intro y hy
  simp only [be4, List.mem_cons, List.not_mem_nil, or_false] at hy
  rcases hy with rfl | rfl | rfl | rfl <;> omega
theorem padL_bys (n : Nat) (h : n ≤ 1099511627776) : Bys (padL n) := by
  intro y hy
  simp only [padL, List.mem_cons, List.mem_append, List.mem_replicate] at hy
  rcases hy with rfl | ⟨_, rfl⟩ | hy | hy
  · omega
  · omega
  · exact be4_bys _ (by omega) (by omega) y hy
  · exact be4_bys _ (by omega) (by omega) y hy
end Go.Proofs.YtgibllaifnnfkaaDoor.J
