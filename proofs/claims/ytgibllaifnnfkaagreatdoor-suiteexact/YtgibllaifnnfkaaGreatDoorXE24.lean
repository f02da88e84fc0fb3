/- Of the texts TX, JM1, JW1, JW2, JW3, JW4, JM2: what the card of this claim reaches. -/
import Derived.Test.YtgibllaifnnfkaaGreatDoorXE4
import Derived.Test.YtgibllaifnnfkaaGreatDoorXE23
import Derived.WalkKit
import Derived.Laws.BitsAllLaws
import Derived.Laws.CopyOwn
import Derived.Test.YtgibllaifnnfkaaGreatDoorRows
import Derived.WalkSpells
import Derived.WalkLawsBesides
import Derived.Deep.QuietTactic
import Derived.BigQuiet
import Derived.Deep.MidRow
import Derived.Test.YtgibllaifnnfkaaGreatDoorXE1
import Derived.Deep.RegionHeld3
import Derived.Deep.WholeRow
import Derived.Deep.Cut
namespace Go.Proofs.YtgibllaifnnfkaaGreatDoor
open Go Go.RowKit
def Tx (w : World) (v : Value) (m : List Int) : Prop := ∃ a c, v = .slice a m.length c ∧ Txt w a c m
theorem Tx.below {w w' : World} {v : Value} {m : List Int} (h : Tx w v m) (hB : Below w.heap.size w w') : Tx w' v m := by
  obtain ⟨a, c, e, ht⟩ := h
  exact ⟨a, c, e, ht.below hB⟩
theorem Tx.one {w : World} {v : Value} {m : List Int} (h : Tx w v m) : v.oneCell' = true := by
  obtain ⟨a, c, rfl, -⟩ := h
  rfl
theorem range_of_block {w w' : World} {b o : Nat} {cs : List Value} (h : w'.heap[b]? = w.heap[b]?) (hr : w.rangeAt b o cs) : w'.rangeAt b o cs := fun j v hv => by
  rw [World.cell?_of_block (a := ⟨b, o + j, none⟩) h]
  exact hr j v hv
def txR (m : List Int) : Rel where
  r := fun w v => Tx w v m
  loc := fun w w' v hg ⟨a, c, e, ⟨h1, h2, h3, h4, h5⟩, h6⟩ => by
    refine ⟨a, c, e, ⟨h1, h2, h3, h4, fun hp => ?_⟩, h6⟩
    obtain ⟨b, o, ea, hr⟩ := h5 hp
    exact ⟨b, o, ea, range_of_block (hg b (by rw [e, ea]; exact .head _)) hr⟩
def TxL (w : World) : List Value → List (List Int) → Prop
  | [], [] => True
  | v :: vs, m :: ms => Tx w v m ∧ TxL w vs ms
  | _, _ => False
theorem TxL.len {w : World} : ∀ {vs : List Value} {ms : List (List Int)}, TxL w vs ms → vs.length = ms.length
  | [], [], _ => rfl
  | _ :: _, _ :: _, h => congrArg (· + 1) (TxL.len h.2)
  | [], _ :: _, h => h.elim
  | _ :: _, [], h => h.elim
theorem TxL.at {w : World} : ∀ {vs : List Value} {ms : List (List Int)}, TxL w vs ms → ∀ (i : Nat) (m : List Int), ms[i]? = some m → ∃ v, vs[i]? = some v ∧ Tx w v m
  | [], [], _, i, m, e => by simp at e
  | v :: _, _ :: _, h, 0, m, e => by
    simp only [List.getElem?_cons_zero, Option.some.injEq] at e
    subst e
    exact ⟨v, rfl, h.1⟩
  | _ :: _, _ :: _, h, i + 1, m, e => by
    have := TxL.at h.2 i m (by simpa using e)
    simpa using this
  | [], _ :: _, h, _, _, _ => h.elim
  | _ :: _, [], h, _, _, _ => h.elim
theorem rows_at {w : World} {g : Nat} {t : TypeId} {vs : List Value} {ms : List (List Int)} (ho : RowAt w g vs.toArray t) (h : TxL w vs ms) (hl : decide (vs.length ≤ maxLen) = true := by rfl) : H.RowsV w (some ⟨g, 0, none⟩) vs.length vs.length ms := by
  refine ⟨h.len, Nat.le_refl _, of_decide_eq_true hl, fun _ => ⟨g, 0, rfl, fun i m hm => ?_⟩⟩
  obtain ⟨v, hv, a, c, rfl, h1, h2⟩ := h.at i m hm
  refine ⟨a, c, ?_, h1, h2⟩
  rw [Nat.zero_add]
  exact ho.cell (by simpa using hv)
theorem own_none {w : World} {base n cap : Nat} {a : Option Addr} {xs : List Int} (h : H.OwnBytes w base (.slice a n cap) xs) : a = none → cap = 0 := fun e => by
  obtain ⟨h1, ⟨h2, h3⟩ | ⟨g, c, cur, h2, _⟩⟩ := h
  · simp at h2; exact h2.2.2
  · simp [e] at h2
theorem tx_own {w w' : World} {v : Value} {m : List Int} (h : H.OwnBytes w' w.heap.size v m) (hb : H.Bys m) : (txR m).r w' v ∧ ∀ g ∈ blks v, w.heap.size ≤ g ∧ g < w'.heap.size := by
  obtain ⟨a, c, rfl, hv⟩ := h.form hb
  refine ⟨⟨a, c, rfl, hv, own_none h⟩, fun g hg => ?_⟩
  obtain ⟨h1, ⟨h2, h3⟩ | ⟨b, cap, cur, h2, h3, h4, h5⟩⟩ := h
  · simp only [Value.slice.injEq] at h2
    obtain ⟨rfl, -, -⟩ := h2
    cases hg
  · simp only [Value.slice.injEq] at h2
    obtain ⟨rfl, -, -⟩ := h2
    obtain rfl : g = b := by simpa [blks] using hg
    exact ⟨h3, Own.lt h4⟩
theorem tx_bytes {w : World} {b n : Nat} {t : TypeId} (h : Own w b (B32 (bdig n)) t) : Tx w (.slice (some ⟨b, 0, none⟩) 32 32) (by32 n) := ⟨_, _, by rw [by32_length], by rw [Txt, by32_length]; exact ⟨bytes_own h, fun e => by cases e⟩⟩
theorem tx_byte {w : World} {b : Nat} {t : TypeId} {x : Int} (h : RowAt w b #[.int .u8 x] t) (h0 : 0 ≤ x ∧ x < 256) : Tx w (.slice (some ⟨b, 0, none⟩) 1 1) [x] := ⟨_, _, rfl, ⟨rfl, Nat.le_refl _, by decide, fun y hy => by rw [List.mem_singleton] at hy; rw [hy]; exact h0, fun _ => ⟨b, 0, rfl, fun j v hv => by
  rcases j with _ | j
  · obtain rfl : Value.int .u8 x = v := by simpa [H.u8s] using hv
    exact h.cell rfl
  · simp [H.u8s] at hv⟩⟩, fun e => by cases e⟩
theorem txt_byte {w : World} {b : Nat} {t : TypeId} {x : Int} (h : RowAt w b #[.int .u8 x] t) (h0 : 0 ≤ x ∧ x < 256) : Txt w (some ⟨b, 0, none⟩) 1 [x] := by
  obtain ⟨a, c, e, ht⟩ := tx_byte h h0
  simp only [Value.slice.injEq] at e
  obtain ⟨rfl, -, rfl⟩ := e
  exact ht
theorem txt_nil (w : World) : Txt w none 0 [] := ⟨⟨rfl, Nat.le_refl _, Nat.zero_le _, fun y hy => (by cases hy), fun hp => absurd hp (by decide)⟩, fun _ => rfl⟩
end Go.Proofs.YtgibllaifnnfkaaGreatDoor
namespace Go.Proofs.YtgibllaifnnfkaaGreatDoor.J
def rotl (x : Int) (s : Nat) : Int := bits .or .u32 (x * 2 ^ s % 4294967296) (x / 2 ^ (32 - s))
def word4 (a b c d : Int) : Int := bits .or .u32 (bits .or .u32 (bits .or .u32 (a * 16777216) (b * 65536)) (c * 256)) d
def xr (a b : Int) : Int := bits .xor .u32 a b
def sig0 (x : Int) : Int := xr (xr (rotl x 25) (rotl x 14)) (x / 8)
def sig1 (x : Int) : Int := xr (xr (rotl x 15) (rotl x 13)) (x / 1024)
def big0 (x : Int) : Int := xr (xr (rotl x 30) (rotl x 19)) (rotl x 10)
def big1 (x : Int) : Int := xr (xr (rotl x 26) (rotl x 21)) (rotl x 7)
def ad (a b : Int) : Int := (a + b) % 4294967296
def nextW (f : Nat → Int) (l : List Int) : Int :=
  if l.length < 16 then word4 (f (4 * l.length)) (f (4 * l.length + 1)) (f (4 * l.length + 2)) (f (4 * l.length + 3))
  else (l.getD (l.length - 16) 0 + sig0 (l.getD (l.length - 15) 0) + l.getD (l.length - 7) 0 + sig1 (l.getD (l.length - 2) 0)) % 4294967296
def sched (f : Nat → Int) : Nat → List Int
  | 0 => []
  | n + 1 => sched f n ++ [nextW f (sched f n)]
theorem sched_length (f : Nat → Int) : ∀ n, (sched f n).length = n
  | 0 => rfl
  | n + 1 => by simp [sched, sched_length f n]
def kays : List Int := [1116352408, 1899447441, 3049323471, 3921009573, 961987163, 1508970993, 2453635748, 2870763221, 3624381080, 310598401, 607225278, 1426881987, 1925078388, 2162078206, 2614888103, 3248222580, 3835390401, 4022224774, 264347078, 604807628, 770255983, 1249150122, 1555081692, 1996064986, 2554220882, 2821834349, 2952996808, 3210313671, 3336571891, 3584528711, 113926993, 338241895, 666307205, 773529912, 1294757372, 1396182291, 1695183700, 1986661051, 2177026350, 2456956037, 2730485921, 2820302411, 3259730800, 3345764771, 3516065817, 3600352804, 4094571909, 275423344, 430227734, 506948616, 659060556, 883997877, 958139571, 1322822218, 1537002063, 1747873779, 1955562222, 2024104815, 2227730452, 2361852424, 2428436474, 2756734187, 3204031479, 3329325298]
structure St where
  a : Int
  b : Int
  c : Int
  d : Int
  e : Int
  f : Int
  g : Int
  h : Int
def start : St := ⟨1779033703, 3144134277, 1013904242, 2773480762, 1359893119, 2600822924, 528734635, 1541459225⟩
def stArr (s : St) : Array Value := #[.int .u32 s.a, .int .u32 s.b, .int .u32 s.c, .int .u32 s.d, .int .u32 s.e, .int .u32 s.f, .int .u32 s.g, .int .u32 s.h]
def St.val (s : St) : Value := .agg (stArr s)
def ones : Int := if IntKind.u32.signed = true then -1 else IntKind.u32.max
def an (a b : Int) : Int := bits .and .u32 a b
def ch (e f g : Int) : Int := xr (an e f) (an (xr ones e) g)
def maj (a b c : Int) : Int := xr (xr (an a b) (an a c)) (an b c)
def tone (k x : Int) (s : St) : Int := (s.h + big1 s.e + ch s.e s.f s.g + k + x) % 4294967296
def ttwo (s : St) : Int := (big0 s.a + maj s.a s.b s.c) % 4294967296
def rnd (k x : Int) (s : St) : St := ⟨(tone k x s + ttwo s) % 4294967296, s.a, s.b, s.c, (s.d + tone k x s) % 4294967296, s.e, s.f, s.g⟩
def rnds (wf : Nat → Int) (s : St) : Nat → St
  | 0 => s
  | n + 1 => rnd (kays.getD n 0) (wf n) (rnds wf s n)
def addSt (s r : St) : St := ⟨(s.a + r.a) % 4294967296, (s.b + r.b) % 4294967296, (s.c + r.c) % 4294967296, (s.d + r.d) % 4294967296, (s.e + r.e) % 4294967296, (s.f + r.f) % 4294967296, (s.g + r.g) % 4294967296, (s.h + r.h) % 4294967296⟩
def mixS (s : St) (f : Nat → Int) : St := addSt s (rnds (fun i => (sched f 64).getD i 0) s 64)
def be4 (x : Int) : List Int := [x / 16777216, x / 65536 % 256, x / 256 % 256, x % 256]
def noughts (n : Nat) : Nat := (64 - (n % 64 + 1 + 8) % 64) % 64
def padL (n : Nat) : List Int := 128 :: (List.replicate (noughts n) 0 ++ (be4 ((n : Int) * 8 / 4294967296) ++ be4 ((n : Int) * 8 % 4294967296)))
theorem padL_length (n : Nat) : (padL n).length = 1 + noughts n + 8 := by simp [padL, be4]; omega
theorem padL_whole (n : Nat) : (n + (padL n).length) % 64 = 0 := by rw [padL_length]; unfold noughts; omega
def u8s (l : List Int) : List Value := l.map (Value.int .u8)
def Bys (l : List Int) : Prop := ∀ x ∈ l, 0 ≤ x ∧ x < 256
theorem be4_bys (x : Int) (h : 0 ≤ x) (h' : x < 4294967296) : Bys (be4 x) := by
  intro y hy
  simp only [be4, List.mem_cons, List.not_mem_nil, or_false] at hy
  rcases hy with rfl | rfl | rfl | rfl <;> omega
theorem padL_bys (n : Nat) (h : n ≤ 1099511627776) : Bys (padL n) := by
  intro y hy
  simp only [padL, List.mem_cons, List.mem_append, List.mem_replicate] at hy
  rcases hy with rfl | ⟨_, rfl⟩ | hy | hy
  · omega
  · omega
  · exact be4_bys _ (by omega) (by omega) y hy
  · exact be4_bys _ (by omega) (by omega) y hy
end Go.Proofs.YtgibllaifnnfkaaGreatDoor.J
namespace Go.Proofs.YtgibllaifnnfkaaGreatDoor.J
open Go.RowKit
theorem ret_int {k : IntKind} {a b : Int} (h : a = b) : Ending.returned (.int k a) = .returned (.int k b) := by rw [h]
theorem and31 (k : Int) (h1 : -32 < k) (h2 : k < 0) : bits .and .u64 (IntKind.u64.wrap k) 31 = 32 + k := by
  have e : IntKind.u64.wrap k = 18446744073709551616 + k := by
    simp [IntKind.wrap, IntKind.bits, IntKind.signed]; omega
  rw [e]
  rw [show (31 : Int) = ((31 : Nat) : Int) from rfl]
  have := u64_and (18446744073709551616 + k) 31 (by omega) (by omega) (by omega) (by omega)
  rw [show ((31 : Nat) : Int) = (31 : Int) from rfl, this]
  rw [show (31 : Int).toNat = 31 from rfl, nat_mask5]
  omega
theorem sub_s (k : Int) (h1 : -32 < k) (h2 : k < 0) : IntKind.u64.wrap (32 - (32 + k)) = - k := by
  simp [IntKind.wrap, IntKind.bits, IntKind.signed]; omega
set_option maxHeartbeats 400000 in
theorem rot_any (x k : Int) (w : World) (h1 : -32 < k) (h2 : k < 0) :
    Calls Tryz.prog 80 #[.int .u32 x, .int .i64 k] w fun e w' => e = .returned (.int .u32 (rotl x (32 + k).toNat)) ∧ w' = w := by
  have hs := and31 k h1 h2
  have h3 : 0 ≤ 32 + k := by omega
  have hk := sub_s k h1 h2
  have h4 : 0 ≤ - k := by omega
  go_enter Tryz.func80, Tryz.ntmps80
  go_wp2
  go_ret
  refine ⟨ret_int ?_, rfl⟩
  unfold rotl
  rw [show 32 - (32 + k).toNat = (-k).toNat from by omega]
set_option maxHeartbeats 400000 in
theorem word_any (b off len cap : Nat) (x0 x1 x2 x3 : Int) (w : World) (hl : 4 ≤ len) (_ : len ≤ cap)
    (c0 : w.cell? ⟨b, off, none⟩ = some (.int .u8 x0)) (c1 : w.cell? ⟨b, off + 1, none⟩ = some (.int .u8 x1))
    (c2 : w.cell? ⟨b, off + 2, none⟩ = some (.int .u8 x2)) (c3 : w.cell? ⟨b, off + 3, none⟩ = some (.int .u8 x3))
    (b0 : 0 ≤ x0 ∧ x0 < 256) (b1 : 0 ≤ x1 ∧ x1 < 256) (b2 : 0 ≤ x2 ∧ x2 < 256) (b3 : 0 ≤ x3 ∧ x3 < 256) :
    Calls Tryz.prog 126 #[.slice (some ⟨b, off, none⟩) len cap] w fun e w' => e = .returned (.int .u32 (word4 x0 x1 x2 x3)) ∧ ∃ n, w' = w.drewN n := by
  have hl0 : (0 : Int) < (len : Int) := by omega
  have hl1 : (1 : Int) < (len : Int) := by omega
  have hl2 : (2 : Int) < (len : Int) := by omega
  have hl3 : (3 : Int) < (len : Int) := by omega
  go_enter Tryz.func126, Tryz.ntmps126
  go_wp2
  go_quiet (fail)
  go_wp2
  go_ret
  exact ⟨rfl, _, rfl⟩
set_option maxHeartbeats 400000 in
theorem putWord_any (b off len cap : Nat) (x : Int) (w : World) (v0 v1 v2 v3 : Value) (hl : 4 ≤ len) (_ : len ≤ cap) (hx : 0 ≤ x) (hx' : x < 4294967296)
    (c0 : w.cell? ⟨b, off, none⟩ = some v0) (c1 : w.cell? ⟨b, off + 1, none⟩ = some v1) (c2 : w.cell? ⟨b, off + 2, none⟩ = some v2) (c3 : w.cell? ⟨b, off + 3, none⟩ = some v3)
    (f0 : w.frozen? ⟨b, off, none⟩ = false) (f1 : w.frozen? ⟨b, off + 1, none⟩ = false) (f2 : w.frozen? ⟨b, off + 2, none⟩ = false) (f3 : w.frozen? ⟨b, off + 3, none⟩ = false) :
    Calls Tryz.prog 92 #[.slice (some ⟨b, off, none⟩) len cap, .int .u32 x] w fun e w' => e = .returned (.tuple #[]) ∧ w' = (((w.setCell ⟨b, off, none⟩ (.int .u8 (x / 16777216))).setCell ⟨b, off + 1, none⟩ (.int .u8 (x / 65536 % 256))).setCell ⟨b, off + 2, none⟩ (.int .u8 (x / 256 % 256))).setCell ⟨b, off + 3, none⟩ (.int .u8 (x % 256)) := by
  have hl0 : (0 : Int) < (len : Int) := by omega
  have hl1 : (1 : Int) < (len : Int) := by omega
  have hl2 : (2 : Int) < (len : Int) := by omega
  have hl3 : (3 : Int) < (len : Int) := by omega
  go_enter Tryz.func92, Tryz.ntmps92
  go_wp2
  go_end0
  exact ⟨rfl, rfl⟩
end Go.Proofs.YtgibllaifnnfkaaGreatDoor.J
namespace Go.Proofs.YtgibllaifnnfkaaGreatDoor.J
open Go.RowKit
def wordsArr (l : List Int) : Array Value := ((l.map (Value.int .u32)) ++ List.replicate (64 - l.length) (Value.int .u32 0)).toArray
theorem wordsArr_size (l : List Int) (h : l.length ≤ 64) : (wordsArr l).size = 64 := by simp [wordsArr]; omega
theorem word_at (b off len cap n o : Nat) (f : Nat → Int) (w : World) (hl : 4 ≤ len) (hc : len ≤ cap) (hb : BytesAt w b off n f) (ho : o + 4 ≤ n) :
    Calls Tryz.prog 126 #[.slice (some ⟨b, off + o, none⟩) len cap] w fun e w' => e = .returned (.int .u32 (word4 (f o) (f (o + 1)) (f (o + 2)) (f (o + 3)))) ∧ ∃ n, w' = w.drewN n := by
  have h0 := hb o (by omega)
  have h1 := hb (o + 1) (by omega)
  have h2 := hb (o + 2) (by omega)
  have h3 := hb (o + 3) (by omega)
  simp only [← Nat.add_assoc] at h1 h2 h3
  exact word_any b (off + o) len cap _ _ _ _ w hl hc h0.1 h1.1 h2.1 h3.1 h0.2 h1.2 h2.2 h3.2
theorem wordsArr_new (l : List Int) (h : l.length < 64) : (wordsArr l)[l.length]? = some (.int .u32 0) := by
  simp [wordsArr, List.getElem?_append_right, List.getElem?_replicate]; omega
theorem wordsArr_old (l : List Int) (i : Nat) (h : i < l.length) : (wordsArr l)[i]? = some (.int .u32 (l.getD i 0)) := by
  simp [wordsArr, List.getElem?_append_left, h]
theorem wordsArr_set (l : List Int) (v : Int) (h : l.length < 64) : (wordsArr l).setIfInBounds l.length (.int .u32 v) = wordsArr (l ++ [v]) := by
  obtain ⟨n, hn⟩ : ∃ n, 64 - l.length = n + 1 := ⟨63 - l.length, by omega⟩
  have h2 : 64 - (l.length + 1) = n := by omega
  simp [wordsArr, hn, h2, List.replicate_succ]
theorem setCell_two (w : World) (x : Obj) (A : Array Value) (t : TypeId) (n k : Nat) (v : Value) :
    (((w.alloc x).alloc (.cells A t)).drewN n).setCell ⟨w.heap.size + 1, k, none⟩ v = ((w.alloc x).alloc (.cells (A.setIfInBounds k v) t)).drewN n := by
  have := World.setCell_alloc_new (w := w.alloc x) A t k v
  simp only [World.size_alloc] at this
  have e : ∀ (w : World) a v, (w.drewN n).setCell a v = (w.setCell a v).drewN n := fun _ _ _ => rfl
  rw [e, this]
theorem i64_sub (k : Nat) (c : Int) (h : k ≤ 64) (hc : 0 ≤ c) (hc' : c ≤ 64) : IntKind.i64.wrap ((k : Int) - c) = (k : Int) - c := by
  rw [IntKind.wrap_i64]; omega
theorem at_back (f : Nat → Int) (k c : Nat) (ci : Int) (hci : ci = c) (hk : k ≤ 64) (h : c ≤ k) (hc : 0 < c) : ∃ (i : Nat) (v : Int), IntKind.i64.wrap ((k : Int) - ci) = (i : Int) ∧ (wordsArr (sched f k))[i]? = some (.int .u32 v) ∧ (i : Int) < 64 ∧ (0 : Int) ≤ (i : Int) ∧ Hid (v = (sched f k).getD (k - c) 0) :=
  ⟨k - c, _, by rw [hci, i64_sub k c hk (by omega) (by omega)]; omega, wordsArr_old _ _ (by rw [sched_length]; omega), by omega, by omega, rfl⟩
theorem range_two (w : World) (x : Obj) (A : Array Value) (t : TypeId) (n : Nat) : (((w.alloc x).alloc (.cells A t)).drewN n).rangeAt (w.heap.size + 1) 0 A.toList := fun j v hv => by
  rw [World.cell?_drewN]
  have := cell_of_row ((w.alloc x).alloc (.cells A t)) (w.heap.size + 1) j A t (0, 0) (by have := heap_alloc_last (w.alloc x) (.cells A t); simpa using this)
  rw [Nat.zero_add, this]; simpa using hv
theorem there_first (w : World) (A : Array Value) (y : Obj) (t : TypeId) (n m : Nat) (h : m ≤ A.size) : (((w.alloc (.cells A t)).alloc y).drewN n).there w.heap.size 0 m := fun j hj => by
  have e : ((w.alloc (.cells A t)).alloc y).heap[w.heap.size]? = some (.cells A t) := by
    rw [Below.heap_alloc _ _ _ (by simp)]; exact heap_alloc_last w _
  constructor
  · rw [World.cell?_drewN, cell_of_row _ w.heap.size (0 + j) A t (0, 0) e]
    have : j < A.size := by omega
    simp [this]
  · rw [World.frozen?_drewN]; simp [World.frozen?, e]
theorem wordsArr_one (l : List Int) : (wordsArr l).all (·.oneCell') = true := all_oneCell_toArray fun v hv => by
  rcases List.mem_append.1 hv with h | h
  · obtain ⟨x, _, rfl⟩ := List.mem_map.1 h; rfl
  · obtain ⟨_, rfl⟩ := List.mem_replicate.1 h; rfl
theorem info40 : (Tryz.prog.info? 64).map (·.size) = some 64 := by kernel_rfl
theorem sched_first (f : Nat → Int) (k : Nat) (h : k < 16) : wordsArr (sched f (k + 1)) = (wordsArr (sched f k)).setIfInBounds k (.int .u32 (word4 (f (4 * k)) (f (4 * k + 1)) (f (4 * k + 2)) (f (4 * k + 3)))) := by
  have e := sched_length f k
  have := wordsArr_set (sched f k) (nextW f (sched f k)) (by omega)
  rw [e] at this
  rw [sched, ← this, nextW, e, if_pos h]
theorem sched_later (f : Nat → Int) (k : Nat) (h : 16 ≤ k) (h' : k < 64) : wordsArr (sched f (k + 1)) = (wordsArr (sched f k)).setIfInBounds k (.int .u32 (((sched f k).getD (k - 16) 0 + sig0 ((sched f k).getD (k - 15) 0) + (sched f k).getD (k - 7) 0 + sig1 ((sched f k).getD (k - 2) 0)) % 4294967296)) := by
  have e := sched_length f k
  have := wordsArr_set (sched f k) (nextW f (sched f k)) (by omega)
  rw [e] at this
  rw [sched, ← this, nextW, e, if_neg (by omega)]
theorem below_two (w : World) (x y : Obj) (n : Nat) : Below w.heap.size w (((w.alloc x).alloc y).drewN n) :=
  below_drewN (((Below.refl _ _).alloc (Nat.le_refl _) _).alloc (by simp) _) n
set_option maxRecDepth 100000 in
set_option maxHeartbeats 400000 in
theorem sched_any (b off len cap : Nat) (f : Nat → Int) (w : World) (hl : 64 ≤ len) (hc : len ≤ cap) (hcap : cap ≤ maxLen) (hb : BytesAt w b off 64 f) :
    Calls Tryz.prog 114 #[.slice (some ⟨b, off, none⟩) len cap] w fun e w' => e = .returned (.agg (wordsArr (sched f 64))) ∧ Below w.heap.size w w' := by
  unfold maxLen at hcap
  go_enter Tryz.func114, Tryz.ntmps114
  go_wp2
  go_loopw [10] (fun i wr => ∃ k n : Nat, k ≤ 16 ∧ i = .int .i64 k ∧ wr = ((w.alloc (.cells (wordsArr []) 64)).alloc (.cells (wordsArr (sched f k)) 64)).drewN n) (fun i _ => 16 - (intOf i).toNat)
  case atStart => exact ⟨0, 0, by omega, rfl, rfl⟩
  case round =>
    obtain ⟨k, n, hk, rfl, rfl⟩ := hrel
    by_cases hlt : k < 16
    · go_wp2_with fail
      refine (word_at b off (len - 4 * k) (cap - 4 * k) 64 (4 * k) f _ (by omega) (by omega) (hb.below (below_two _ _ _ _)) (by omega)).mono ?_
      rintro e w' ⟨rfl, m, rfl⟩
      have hg := wordsArr_new (sched f k) (by rw [sched_length]; omega)
      rw [sched_length] at hg
      go_wp2
      go_roundw
      case rel =>
        refine ⟨k + 1, n + m, by omega, by go_num, ?_⟩
        rw [setCell_two, ← sched_first f k hlt]
      case measure => simp [intOf]; omega
    · have hk16 : Hid (k = 16) := show k = 16 by omega
      go_wp2
      clear hlt hk
      go_loopw [5] (fun i wr => ∃ k n : Nat, 16 ≤ k ∧ k ≤ 64 ∧ i = .int .i64 k ∧ wr = ((w.alloc (.cells (wordsArr []) 64)).alloc (.cells (wordsArr (sched f k)) 64)).drewN n) (fun i _ => 64 - (intOf i).toNat)
      case atStart => exact ⟨k, n, by have := hk16.out; omega, by have := hk16.out; omega, by rw [hk16.out]; rfl, rfl⟩
      case round =>
        clear hk16
        obtain ⟨k, m, hk1, hk, rfl, rfl⟩ := hrel
        by_cases hlt : k < 64
        · obtain ⟨i15, v15, w15, g15, p15, q15, H15⟩ := at_back f k 15 15 rfl hk (by omega) (by decide)
          obtain ⟨i2, v2, w2, g2, p2, q2, H2⟩ := at_back f k 2 2 rfl hk (by omega) (by decide)
          obtain ⟨i16, v16, w16, g16, p16, q16, H16⟩ := at_back f k 16 16 rfl hk (by omega) (by decide)
          obtain ⟨i7, v7, w7, g7, p7, q7, H7⟩ := at_back f k 7 7 rfl hk (by omega) (by decide)
          have hg := wordsArr_new (sched f k) (by rw [sched_length]; omega)
          rw [sched_length] at hg
          have hki : (k : Int) < 64 := by omega
          go_wp2
          go_quiet (fail)
          go_wp2_with (go_at_call 80; refine (rot_any _ _ _ (by decide) (by decide)).mono ?_; rintro e w' ⟨rfl, rfl⟩)
          go_region
          go_wp2
          go_roundw
          case rel =>
            refine ⟨k + 1, m + nq + 1, by omega, by omega, by go_num, ?_⟩
            rw [setCell_two, sched_later f k hk1 hlt, ← H16.out, ← H15.out, ← H7.out, ← H2.out]
            rfl
          case measure => simp [intOf]; omega
        · have hk64 : Hid (k = 64) := show k = 64 by omega
          have hi : (Tryz.prog.info? 64).map (·.size) = some (wordsArr (sched f k)).toList.length := by
            rw [info40, Array.length_toList, wordsArr_size _ (by rw [sched_length]; omega)]
          have hi' : (Tryz.prog.info? 64).map (·.size) = some (wordsArr (sched f k)).size := by rw [hi, Array.length_toList]
          have ht := there_first w (wordsArr []) (.cells (wordsArr (sched f k)) 64) 64 (m) (wordsArr (sched f k)).size (by rw [wordsArr_size _ (by rw [sched_length]; omega)]; exact Nat.le_refl _)
          have h1 := wordsArr_one (sched f k)
          go_upto_region 14 with fail
          go_wp2_with (first | refine wpList_load_mid (by rfl) 64 (.tmp 3) (by rfl) (w.heap.size + 1) 0 (by rfl) (wordsArr (sched f k)).toList _ (range_two _ _ _ _ _) Tryz.underlying64 (by rfl) hi ?_ | refine wpList_store_mid (by rfl) 64 (.tmp 2) (.tmp 64) (by rfl) w.heap.size 0 (wordsArr (sched f k)) (by rfl) (by rfl) ht hi' h1 ?_)
          refine bodyPost_ret (v := .agg (wordsArr (sched f k))) ?_ rfl ⟨by rw [hk64.out], ?_⟩
          · exact results_cell Tryz.results114 _ _ w.heap.size 0 (wordsArr (sched f k)).toList _ rfl (World.rangeAt_setCells_same _ _ _ _ (by simpa using ht)) Tryz.underlying64 (by rfl) hi
          · exact Below.setCells _ _ _ _ (Nat.le_refl _) (below_two _ _ _ _)
end Go.Proofs.YtgibllaifnnfkaaGreatDoor.J
namespace Go.Proofs.YtgibllaifnnfkaaGreatDoor.J
open Go.RowKit
def TabK (w : World) : Prop := 5 < w.heap.size ∧ ∀ i, i < 64 → w.cell? ⟨5, i, none⟩ = some (.int .u32 (kays.getD i 0))
theorem TabK.below {w w' : World} (h : TabK w) (hB : Below w.heap.size w w') : TabK w' :=
  ⟨Nat.lt_of_lt_of_le h.1 hB.size, fun i hi => by rw [hB.cell (p := ⟨5, i, none⟩) h.1]; exact h.2 i hi⟩
theorem stArr_one (s : St) : (stArr s).all (·.oneCell') = true := by simp [stArr, Value.oneCell']
theorem info42 : (Tryz.prog.info? 66).map (·.size) = some 8 := by kernel_rfl
theorem info39 : (Tryz.prog.info? 63).map (·.size) = some 1 := by kernel_rfl
set_option maxRecDepth 100000 in
set_option maxHeartbeats 400000 in
theorem mix_any (b off len cap : Nat) (f : Nat → Int) (s : St) (w : World) (hl : 64 ≤ len) (hc : len ≤ cap) (hcap : cap ≤ maxLen) (hb : BytesAt w b off 64 f) (hT : TabK w) :
    Calls Tryz.prog 90 #[s.val, .slice (some ⟨b, off, none⟩) len cap] w fun e w' => e = .returned (mixS s f).val ∧ Below w.heap.size w w' := by
  unfold St.val stArr
  go_enter Tryz.func90, Tryz.ntmps90
  go_wp2_with fail
  refine (sched_any b off len cap f _ hl hc hcap (hb.below (((Below.refl _ _).alloc (Nat.le_refl _) _).alloc (by simp) _))).mono ?_
  rintro e w1 ⟨rfl, hB⟩
  have ws64 := wordsArr_size (sched f 64) (by rw [sched_length]; exact Nat.le_refl _)
  have hi' : (Tryz.prog.info? 64).map (·.size) = some (wordsArr (sched f 64)).size := by rw [info40, ws64]
  have h1 := wordsArr_one (sched f 64)
  have hws : ∀ i, i < 64 → (wordsArr (sched f 64))[i]? = some (.int .u32 ((sched f 64).getD i 0)) := fun i hi => wordsArr_old _ _ (by rw [sched_length]; exact hi)
  have o0 := ((own_new w _ 66).alloc _).below hB (by simp; omega)
  have o1 := (own_new (w.alloc _) _ 66).below hB (by simp)
  rw [World.size_alloc] at o1
  have hb1 : Below w.heap.size w w1 := (((Below.refl _ _).alloc (Nat.le_refl _) _).alloc (by simp) _).trans (hB.mono (by simp; omega))
  generalize wordsArr (sched f 64) = ws at *
  clear hB
  go_wp2_with (refine wpList_store_new (by rfl) 64 (.tmp 5) (.tmp 23) (by rfl) _ ws (by rfl) (by rfl) hi' (by rw [ws64]; rfl) h1 (by rfl) ?_)
  have oM := own_new w1 ws 64
  have o0 := o0.alloc (.cells ws 64)
  have o1 := o1.alloc (.cells ws 64)
  have hb2 := hb1.alloc hb1.size (.cells ws 64)
  generalize w1.alloc (.cells ws 64) = W at *
  generalize w1.heap.size = M at *
  clear hb1
  have hTW := hT.below hb2
  have c0 := o0.cell (i := 0) rfl
  have c1 := o0.cell (i := 1) rfl
  have c2 := o0.cell (i := 2) rfl
  have c3 := o0.cell (i := 3) rfl
  have c4 := o0.cell (i := 4) rfl
  have c5 := o0.cell (i := 5) rfl
  have c6 := o0.cell (i := 6) rfl
  have c7 := o0.cell (i := 7) rfl
  go_quiet (fail)
  rename Nat => n1
  go_wp2
  go_quiet (fail)
  rename Nat => n2
  go_upto_region 4 with fail
  go_wp2_with (refine wpList_load_own (by rfl) 64 (.tmp 5) (by rfl) M (by rfl) ws _ ((oM.drewN _).drewN _) Tryz.underlying64 (by rfl) hi' ?_)
  obtain ⟨wf, hwf⟩ : ∃ wf : Nat → Int, wf = fun i => (sched f 64).getD i 0 := ⟨_, rfl⟩
  have hws : ∀ i, i < 64 → ws[i]? = some (.int .u32 (wf i)) := fun i hi => by rw [hwf]; exact hws i hi
  have Hwf : Hid (wf = fun i => (sched f 64).getD i 0) := hwf
  clear hwf
  go_loop [6, 7, 8, 9, 10, 11, 12, 13, 41] (fun ra rb rc rd re rf rg rh i => ∃ (k : Nat) (r : St), k ≤ 64 ∧ Hid (r = rnds wf s k) ∧ i = .int .i64 k ∧ ra = .int .u32 r.a ∧ rb = .int .u32 r.b ∧ rc = .int .u32 r.c ∧ rd = .int .u32 r.d ∧ re = .int .u32 r.e ∧ rf = .int .u32 r.f ∧ rg = .int .u32 r.g ∧ rh = .int .u32 r.h) (fun _ _ _ _ _ _ _ _ i => 64 - (intOf i).toNat)
  case atStart => exact ⟨0, s, by omega, rfl, rfl, rfl, rfl, rfl, rfl, rfl, rfl, rfl, rfl⟩
  case round =>
    obtain ⟨k, r, hk, Hr, rfl, rfl, rfl, rfl, rfl, rfl, rfl, rfl, rfl⟩ := hrel
    by_cases hlt : k < 64
    · have hki : (k : Int) < 64 := by omega
      have hk0 : (0 : Int) ≤ (k : Int) := by omega
      have hk64 : k < ws.size := by omega
      have hw := hws k hlt
      have hidx : ∀ w', (Instr.index 64 (.agg ws) (.int .i64 (k : Int))).run Tryz.prog w' = .ok (.int .u32 (wf k)) w' := fun w' => run_index_arr Tryz.underlying64 Tryz.underlying63 info39 ws k _ hlt hw w'
      have hg := hTW.2 k hlt
      have Hst : Hid (rnds wf s (k + 1) = rnd (kays.getD k 0) (wf k) (rnds wf s k)) := rfl
      generalize kays.getD k 0 = kk at *
      generalize wf k = wk at *
      go_wp2_with (go_at_call 80; refine (rot_any _ _ _ (by decide) (by decide)).mono ?_; rintro e w' ⟨rfl, rfl⟩)
      go_roundw
      case rel => 
        exact ⟨k + 1, rnd kk wk r, by omega, by rw [Hr.out]; exact Hst.out.symm, by go_num, rfl, rfl, rfl, rfl, rfl, rfl, rfl, rfl⟩
      case measure => simp [intOf]; omega
    · have Hk : Hid (k = 64) := show k = 64 by omega
      go_upto_region 16 with fail
      go_wp2_with (refine wpList_store_own (by rfl) 66 (.tmp 4) (.tmp 139) (by rfl) (w.heap.size + 1) 0 (stArr (addSt s r)) (by rfl) (by rfl) (o1.drewN _) (Nat.le_refl _) info42 (stArr_one _) (by rfl) ?_)
      refine bodyPost_ret (results_own Tryz.results90 _ _ (w.heap.size + 1) (stArr (addSt s r)) _ rfl (own_setCells (o1.drewN _) rfl) Tryz.underlying66 rfl info42) rfl ⟨?_, ?_⟩
      · rw [Hr.out, Hk.out, Hwf.out]; rfl
      · exact Below.setCells _ _ _ _ (Nat.le_succ _) (below_drewN hb2 _)
end Go.Proofs.YtgibllaifnnfkaaGreatDoor.J
namespace Go.Proofs.YtgibllaifnnfkaaGreatDoor.J
open Go.RowKit
theorem info5 : (Tryz.prog.info? 5).map (fun i => (i.zero, i.size, i.bytes)) = some (some (.int .u8 0), 1, 1) := by kernel_rfl
def put4 (A : Array Value) (off : Nat) (x : Int) : Array Value :=
  (((A.setIfInBounds off (.int .u8 (x / 16777216))).setIfInBounds (off + 1) (.int .u8 (x / 65536 % 256))).setIfInBounds (off + 2) (.int .u8 (x / 256 % 256))).setIfInBounds (off + 3) (.int .u8 (x % 256))
theorem put4_list (L1 L2 : List Value) (z0 z1 z2 z3 : Value) (x : Int) (off : Nat) (h : off = L1.length) : put4 (L1 ++ (z0 :: z1 :: z2 :: z3 :: L2)).toArray off x = (L1 ++ (u8s (be4 x) ++ L2)).toArray := by
  subst h
  simp [put4, u8s, be4]
theorem grown_setCell (w : World) (b i : Nat) (v : Value) : w.grownBy (w.setCell ⟨b, i, none⟩ v) (some b) :=
  ⟨rfl, rfl, rfl, by simp [World.setCell], fun k _ hk => Below.heap_setCell _ _ _ _ (fun e => hk (by rw [e]))⟩
theorem grown_trans {a b c : World} {r : Option Nat} (h : a.grownBy b r) (k : b.grownBy c r) : a.grownBy c r :=
  ⟨k.os.trans h.os, k.tape.trans h.tape, k.output.trans h.output, Nat.le_trans h.size k.size, fun i hi hr => (k.block i (Nat.lt_of_lt_of_le hi h.size) hr).trans (h.block i hi hr)⟩
theorem below_grown {B : Nat} {a w w' : World} {b : Nat} (h : Below B a w) (hg : w.grownBy w' (some b)) (hB : B ≤ w.heap.size) (hb : B ≤ b) : Below B a w' :=
  h.grown hg hB (fun k e => by cases e; exact hb)
theorem putWord_own (b off len cap : Nat) (x : Int) (w : World) (A : Array Value) (t : TypeId) (ho : Own w b A t) (hfit : off + 4 ≤ A.size) (hl : 4 ≤ len) (hc : len ≤ cap) (hx : 0 ≤ x) (hx' : x < 4294967296) :
    Calls Tryz.prog 92 #[.slice (some ⟨b, off, none⟩) len cap, .int .u32 x] w fun e w' => e = .returned (.tuple #[]) ∧ Own w' b (put4 A off x) t ∧ w.grownBy w' (some b) := by
  refine (putWord_any b off len cap x w _ _ _ _ hl hc hx hx' (ho.cell (Array.getElem?_eq_getElem (by omega))) (ho.cell (Array.getElem?_eq_getElem (by omega))) (ho.cell (Array.getElem?_eq_getElem (by omega))) (ho.cell (Array.getElem?_eq_getElem (by omega))) (ho.frozen _) (ho.frozen _) (ho.frozen _) (ho.frozen _)).mono ?_
  rintro e w' ⟨rfl, rfl⟩
  exact ⟨rfl, (((ho.setCell _ _).setCell _ _).setCell _ _).setCell _ _, grown_trans (grown_trans (grown_trans (grown_setCell _ _ _ _) (grown_setCell _ _ _ _)) (grown_setCell _ _ _ _)) (grown_setCell _ _ _ _)⟩
theorem pad_array (n q : Nat) (h : noughts n = q) : (u8s (padL n)).toArray = put4 (put4 ((Array.replicate (1 + q + 8) (Value.int .u8 0)).setIfInBounds 0 (Value.int .u8 128)) (1 + q) ((n : Int) * 8 / 4294967296)) (1 + q + 4) ((n : Int) * 8 % 4294967296) := by
  have e : (Array.replicate (1 + q + 8) (Value.int .u8 0)).setIfInBounds 0 (Value.int .u8 128) = ((Value.int .u8 128 :: List.replicate q (Value.int .u8 0)) ++ (Value.int .u8 0 :: Value.int .u8 0 :: Value.int .u8 0 :: Value.int .u8 0 :: [Value.int .u8 0, Value.int .u8 0, Value.int .u8 0, Value.int .u8 0])).toArray := by
    apply Array.ext'
    rw [show 1 + q + 8 = (q + 8) + 1 from by omega]
    simp [List.replicate_succ]
    show List.replicate 8 (Value.int .u8 0) ++ List.replicate q (Value.int .u8 0) = List.replicate q (Value.int .u8 0) ++ List.replicate 8 (Value.int .u8 0)
    rw [List.replicate_append_replicate, List.replicate_append_replicate, Nat.add_comm]
  rw [e, put4_list _ _ _ _ _ _ _ _ (by simp; omega)]
  have e2 : ((Value.int .u8 128 :: List.replicate q (Value.int .u8 0)) ++ (u8s (be4 ((n : Int) * 8 / 4294967296)) ++ [Value.int .u8 0, Value.int .u8 0, Value.int .u8 0, Value.int .u8 0])) = ((Value.int .u8 128 :: List.replicate q (Value.int .u8 0)) ++ u8s (be4 ((n : Int) * 8 / 4294967296))) ++ (Value.int .u8 0 :: Value.int .u8 0 :: Value.int .u8 0 :: Value.int .u8 0 :: []) := by simp
  rw [e2, put4_list _ _ _ _ _ _ _ _ (by simp [u8s, be4]; omega)]
  simp [padL, u8s, h]
set_option maxRecDepth 100000 in
set_option maxHeartbeats 400000 in
theorem pad_any (n : Nat) (w : World) (hn : n ≤ 1099511627776) :
    Calls Tryz.prog 91 #[.int .i64 n] w fun e w' => e = .returned (.slice (some ⟨w.heap.size, 0, none⟩) (padL n).length (padL n).length) ∧ Own w' w.heap.size (u8s (padL n)).toArray 5 ∧ Below w.heap.size w w' := by
  rw [padL_length]
  obtain ⟨q, hq, Hn⟩ : ∃ q : Nat, (64 - ((n : Int) % 64 + 1 + 8) % 64) % 64 = (q : Int) ∧ Hid (noughts n = q) := ⟨noughts n, by unfold noughts; omega, rfl⟩
  have hq63 : q ≤ 63 := by omega
  have Hq := show Hid _ from hq
  clear hq
  rw [Hn.out]
  go_enter Tryz.func91, Tryz.ntmps91
  go_upto_region 3 with fail
  rw [Hq.out]
  have e1 : (1 : Int) + (q : Int) + 8 = ((1 + q + 8 : Nat) : Int) := by omega
  have E1 := show Hid _ from e1
  clear e1
  go_wp2_with (at_make; refine wpList_make_cells _ (by rfl) _ _ 23 (by rfl) 5 _ Tryz.underlying23 info5 (by rfl) .i64 .i64 _ _ (1 + q + 8) (by rfl) (by rfl) E1.out E1.out (by omega) (by unfold maxLen; omega) ?_; intro w1 ho hgr; have c0 := ho.cell (i := 0) (by simp; rfl); have f0 := ho.frozen 0)
  clear c0 f0
  have ho := ho.setCell 0 (.int .u8 128)
  have hgr' := (Below.refl w.heap.size w).grown hgr (Nat.le_refl _) (fun k e => by cases e)
  have hB := below_grown hgr' (grown_setCell w1 w.heap.size 0 (.int .u8 128)) hgr.size (Nat.le_refl _)
  generalize w1.setCell ⟨w.heap.size, 0, none⟩ (.int .u8 128) = w2 at *
  refine (putWord_own _ _ _ _ _ _ _ _ ho (by simp) (by omega) (by omega) (by omega) (by omega)).mono ?_
  rintro e w3 ⟨rfl, ho3, hg3⟩
  have s3 : (put4 ((Array.replicate (1 + q + 8) (Value.int .u8 0)).setIfInBounds 0 (.int .u8 128)) (1 + q) ((n : Int) * 8 / 4294967296)).size = 1 + q + 8 := by simp [put4]
  go_wp2_with fail
  refine (putWord_own _ _ _ _ _ _ _ _ ho3 (by rw [s3]; omega) (by omega) (by omega) (by omega) (by omega)).mono ?_
  rintro e w4 ⟨rfl, ho4, hg4⟩
  go_wp2
  go_ret
  refine ⟨rfl, ?_, below_grown (below_grown hB hg3 hB.size (Nat.le_refl _)) hg4 (Nat.le_trans hB.size hg3.size) (Nat.le_refl _)⟩
  rw [show (u8s (padL n)).toArray = _ from pad_array n q Hn.out]
  exact ho4
end Go.Proofs.YtgibllaifnnfkaaGreatDoor.J
namespace Go.Proofs.YtgibllaifnnfkaaGreatDoor.J
theorem sched_congr {f g : Nat → Int} (h : ∀ i, i < 64 → f i = g i) : ∀ n, n ≤ 64 → sched f n = sched g n
  | 0, _ => rfl
  | n + 1, hn => by
    have ih := sched_congr h n (by omega)
    have e : nextW f (sched f n) = nextW g (sched f n) := by
      unfold nextW
      rw [sched_length]
      split
      · rw [h _ (by omega), h _ (by omega), h _ (by omega), h _ (by omega)]
      · rfl
    rw [sched, sched, e, ih]
theorem mixS_congr {f g : Nat → Int} (s : St) (h : ∀ i, i < 64 → f i = g i) : mixS s f = mixS s g := by
  unfold mixS; rw [sched_congr h 64 (Nat.le_refl _)]
def blocks (f : Nat → Int) : Nat → St
  | 0 => start
  | n + 1 => mixS (blocks f n) (fun i => f (64 * n + i))
theorem blocks_congr {f g : Nat → Int} : ∀ n, (∀ i, i < 64 * n → f i = g i) → blocks f n = blocks g n
  | 0, _ => rfl
  | n + 1, h => by
    rw [blocks, blocks, blocks_congr n (fun i hi => h i (by omega))]
    exact mixS_congr _ (fun i hi => h _ (by omega))
def stOf (l : List Int) : St := blocks (fun i => l.getD i 0) (l.length / 64)
theorem getD_left (l m : List Int) (i : Nat) (h : i < l.length) : (l ++ m).getD i 0 = l.getD i 0 := by
  simp [List.getD, List.getElem?_append_left h]
theorem getD_right (l m : List Int) (i : Nat) : (l ++ m).getD (l.length + i) 0 = m.getD i 0 := by
  simp [List.getD, List.getElem?_append_right]
theorem stOf_small (l m : List Int) (h : l.length % 64 + m.length < 64) : stOf (l ++ m) = stOf l := by
  have e : (l ++ m).length / 64 = l.length / 64 := by rw [List.length_append]; omega
  unfold stOf
  rw [e]
  exact blocks_congr _ (fun i hi => getD_left l m i (by omega))
theorem stOf_block (l m : List Int) (h : l.length % 64 = 0) (hm : m.length = 64) : stOf (l ++ m) = mixS (stOf l) (fun i => m.getD i 0) := by
  have e : (l ++ m).length / 64 = l.length / 64 + 1 := by rw [List.length_append]; omega
  have e2 : 64 * (l.length / 64) = l.length := by omega
  unfold stOf
  rw [e, blocks, blocks_congr (g := fun i => l.getD i 0) _ (fun i hi => getD_left l m i (by omega))]
  exact mixS_congr _ (fun i _ => by rw [e2]; exact getD_right l m i)
def rest (l : List Int) : List Int := l.drop (l.length - l.length % 64)
theorem rest_length (l : List Int) : (rest l).length = l.length % 64 := by
  simp [rest]; have := Nat.mod_le l.length 64; omega
theorem whole_rest (l : List Int) : l.take (l.length - l.length % 64) ++ rest l = l := List.take_append_drop _ _
theorem rest_small (l m : List Int) (h : l.length % 64 + m.length < 64) : rest (l ++ m) = rest l ++ m := by
  have e : (l ++ m).length - (l ++ m).length % 64 = l.length - l.length % 64 := by rw [List.length_append]; omega
  unfold rest
  rw [e, List.drop_append_of_le_length (by omega)]
theorem stOf_fill (l m : List Int) (h : l.length % 64 + m.length = 64) : stOf (l ++ m) = mixS (stOf l) (fun i => (rest l ++ m).getD i 0) := by
  have e := whole_rest l
  have hl : (l.take (l.length - l.length % 64)).length = l.length - l.length % 64 := by simp
  have h0 : (l.take (l.length - l.length % 64)).length % 64 = 0 := by rw [hl]; omega
  have h1 : stOf l = stOf (l.take (l.length - l.length % 64)) := by
    have := stOf_small (l.take (l.length - l.length % 64)) (rest l) (by rw [h0, rest_length]; omega)
    rw [e] at this; exact this
  rw [h1, ← stOf_block _ _ h0 (by rw [List.length_append, rest_length]; exact h), ← List.append_assoc, e]
theorem rest_whole (l : List Int) (h : l.length % 64 = 0) : rest l = [] := by
  unfold rest; rw [h]; simp
def endSt (l : List Int) : St := stOf (l ++ padL l.length)
def stWords (s : St) : List Int := [s.a, s.b, s.c, s.d, s.e, s.f, s.g, s.h]
def sumBytes (s : St) : List Int := (stWords s).flatMap be4
def sumL (s : St) (k : Nat) : List Value := u8s (((stWords s).take k).flatMap be4) ++ List.replicate (32 - 4 * k) (.int .u8 0)
theorem be4_length (x : Int) : (be4 x).length = 4 := rfl
theorem flat_length : ∀ (l : List Int), (l.flatMap be4).length = 4 * l.length
  | [] => rfl
  | x :: r => by rw [List.flatMap_cons, List.length_append, flat_length r, be4_length, List.length_cons]; omega
theorem sumL_length (s : St) (k : Nat) (h : k ≤ 8) : (sumL s k).length = 32 := by
  rw [sumL, List.length_append, u8s, List.length_map, flat_length, List.length_take, List.length_replicate, show (stWords s).length = 8 from rfl, Nat.min_eq_left h]; omega
theorem sumL_zero (s : St) : (sumL s 0).toArray = Array.replicate 32 (Value.int .u8 0) := rfl
theorem sumL_eight (s : St) : sumL s 8 = u8s (sumBytes s) := by simp [sumL, sumBytes, stWords]
theorem sumL_split (s : St) (k : Nat) (h : k < 8) : ∃ L1 L2 : List Value, L1.length = 4 * k ∧ sumL s k = L1 ++ (.int .u8 0 :: .int .u8 0 :: .int .u8 0 :: .int .u8 0 :: L2) ∧ sumL s (k + 1) = L1 ++ (u8s (be4 ((stWords s).getD k 0)) ++ L2) := by
  refine ⟨u8s (((stWords s).take k).flatMap be4), List.replicate (32 - 4 * (k + 1)) (.int .u8 0), ?_, ?_, ?_⟩
  · rw [u8s, List.length_map, flat_length, List.length_take, show (stWords s).length = 8 from rfl, Nat.min_eq_left (by omega)]
  · rw [sumL, show 32 - 4 * k = (32 - 4 * (k + 1)) + 1 + 1 + 1 + 1 from by omega]; rfl
  · have hk : k < (stWords s).length := h
    have e : (stWords s).getD k 0 = (stWords s)[k] := by simp [List.getD, hk]
    rw [sumL, List.take_succ_eq_append_getElem hk, List.flatMap_append, e, u8s, u8s, u8s, List.map_append, List.append_assoc]
    simp
def digest (l : List Int) : List Int := sumBytes (endSt l)
def St.ok (s : St) : Prop := (0 ≤ s.a ∧ s.a < 4294967296) ∧ (0 ≤ s.b ∧ s.b < 4294967296) ∧ (0 ≤ s.c ∧ s.c < 4294967296) ∧ (0 ≤ s.d ∧ s.d < 4294967296) ∧ (0 ≤ s.e ∧ s.e < 4294967296) ∧ (0 ≤ s.f ∧ s.f < 4294967296) ∧ (0 ≤ s.g ∧ s.g < 4294967296) ∧ (0 ≤ s.h ∧ s.h < 4294967296)
theorem addSt_ok (s r : St) : (addSt s r).ok := by simp only [St.ok, addSt]; omega
theorem blocks_ok (f : Nat → Int) : ∀ n, (blocks f n).ok
  | 0 => by simp only [St.ok, blocks, start]; omega
  | n + 1 => addSt_ok _ _
theorem stOf_ok (l : List Int) : (stOf l).ok := blocks_ok _ _
def shaL (s : St) (tl : List Int) (n : Int) : List Value :=
  .int .u32 s.a :: .int .u32 s.b :: .int .u32 s.c :: .int .u32 s.d :: .int .u32 s.e :: .int .u32 s.f :: .int .u32 s.g :: .int .u32 s.h :: (u8s tl ++ [.int .i64 n])
def shaArr (s : St) (tl : List Int) (n : Int) : Array Value := (shaL s tl n).toArray
theorem shaArr_size (s : St) (tl : List Int) (n : Int) (h : tl.length = 64) : (shaArr s tl n).size = 73 := by simp [shaArr, shaL, u8s, h]
theorem shaArr_len (s : St) (tl : List Int) (n : Int) (h : tl.length = 64) : (shaArr s tl n)[72]? = some (.int .i64 n) := by
  simp [shaArr, shaL, u8s, h]
theorem shaArr_setLen (s : St) (tl : List Int) (n n' : Int) (h : tl.length = 64) : (shaArr s tl n).setIfInBounds 72 (.int .i64 n') = shaArr s tl n' := by
  simp [shaArr, shaL, u8s, h]
theorem shaArr_setSt (s s' : St) (tl : List Int) (n : Int) : ((((((((shaArr s tl n).setIfInBounds 0 (.int .u32 s'.a)).setIfInBounds 1 (.int .u32 s'.b)).setIfInBounds 2 (.int .u32 s'.c)).setIfInBounds 3 (.int .u32 s'.d)).setIfInBounds 4 (.int .u32 s'.e)).setIfInBounds 5 (.int .u32 s'.f)).setIfInBounds 6 (.int .u32 s'.g)).setIfInBounds 7 (.int .u32 s'.h) = shaArr s' tl n := by
  simp [shaArr, shaL]
theorem shaArr_tail (s : St) (tl : List Int) (n : Int) (i : Nat) (h : i < tl.length) : (shaArr s tl n)[8 + i]? = some (.int .u8 (tl.getD i 0)) := by
  rw [Nat.add_comm]
  simp [shaArr, shaL, u8s, List.getElem?_append_left, h]
theorem shaL_splice (s : St) (tl m : List Int) (n : Int) (o : Nat) (h : o + m.length ≤ tl.length) : splice (shaL s tl n) (8 + o) (u8s m) = shaL s (tl.take o ++ (m ++ tl.drop (o + m.length))) n := by
  rw [Nat.add_comm]
  have e : o + 8 + m.length = (o + m.length) + 8 := by omega
  simp [splice, shaL, u8s, e, List.take_append_of_le_length, List.drop_append_of_le_length, h, Nat.le_trans (Nat.le_add_right o m.length) h]
end Go.Proofs.YtgibllaifnnfkaaGreatDoor.J
