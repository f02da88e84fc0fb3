/- CRC-32 as a plain function of whole numbers: a register that is halved, its steps linear under xor, none of them losing anything. -/
import Derived.WalkKit
import Derived.Laws.BitsAllLaws
namespace Go.Proofs.YtcpapcopnmapmaaDoor

/-- One step of the register. -/
def T (r : Nat) : Nat := if r % 2 = 1 then r / 2 ^^^ 3988292384 else r / 2
theorem xor_half (a b : Nat) : (a ^^^ b) / 2 = a / 2 ^^^ b / 2 := by
  apply Nat.eq_of_testBit_eq; intro i
  simp only [Nat.testBit_div_two, Nat.testBit_xor]
theorem xor_odd (a b : Nat) : (a ^^^ b) % 2 = (a % 2 + b % 2) % 2 := by
  have h := Nat.xor_mod_two_eq_one (a := a) (b := b)
  rcases Nat.mod_two_eq_zero_or_one a with ha | ha <;> rcases Nat.mod_two_eq_zero_or_one b with hb | hb <;> rcases Nat.mod_two_eq_zero_or_one (a ^^^ b) with hc | hc <;> simp_all
theorem xor_swap4 (a b c d : Nat) : (a ^^^ b) ^^^ (c ^^^ d) = (a ^^^ c) ^^^ (b ^^^ d) := by
  rw [Nat.xor_assoc, Nat.xor_assoc, ← Nat.xor_assoc b c d, Nat.xor_comm b c, Nat.xor_assoc]
theorem T_xor (a b : Nat) : T (a ^^^ b) = T a ^^^ T b := by
  unfold T
  rw [xor_odd, xor_half]
  rcases Nat.mod_two_eq_zero_or_one a with ha | ha <;> rcases Nat.mod_two_eq_zero_or_one b with hb | hb <;> simp only [ha, hb]
  · simp
  · simp [Nat.xor_assoc]
  · simp [Nat.xor_assoc, Nat.xor_comm 3988292384]
  · simp only [Nat.reduceAdd, Nat.reduceMod, Nat.zero_ne_one, if_false, if_true]
    rw [xor_swap4, Nat.xor_self, Nat.xor_zero]
theorem T_zero : T 0 = 0 := by decide
theorem T_lt {r : Nat} (h : r < 4294967296) : T r < 4294967296 := by
  unfold T
  split
  · exact Nat.xor_lt_two_pow (n := 32) (by omega) (by omega)
  · omega
theorem T_double (x : Nat) : T (x * 2) = x := by unfold T; rw [if_neg (by omega)]; omega
/-- No step loses anything. -/
theorem T_inj {r : Nat} (h : r < 4294967296) (h0 : T r = 0) : r = 0 := by
  unfold T at h0
  split at h0
  · exfalso
    have e : r / 2 = 3988292384 := by
      have := congrArg (· ^^^ 3988292384) h0
      simpa [Nat.xor_assoc] using this
    omega
  · omega
/-- Many steps. -/
def Ti : Nat → Nat → Nat
  | 0, r => r
  | n + 1, r => T (Ti n r)
theorem Ti_xor (n a b : Nat) : Ti n (a ^^^ b) = Ti n a ^^^ Ti n b := by
  induction n with
  | zero => rfl
  | succ n ih => rw [Ti, ih, T_xor, Ti, Ti]
theorem Ti_zero (n : Nat) : Ti n 0 = 0 := by
  induction n with
  | zero => rfl
  | succ n ih => rw [Ti, ih, T_zero]
theorem Ti_lt (n : Nat) {r : Nat} (h : r < 4294967296) : Ti n r < 4294967296 := by
  induction n with
  | zero => exact h
  | succ n ih => exact T_lt ih
theorem Ti_inj (n : Nat) {r : Nat} (h : r < 4294967296) (h0 : Ti n r = 0) : r = 0 := by
  induction n with
  | zero => exact h0
  | succ n ih => exact ih (T_inj (Ti_lt n h) h0)
theorem Ti_add (m n r : Nat) : Ti (m + n) r = Ti m (Ti n r) := by
  induction m with
  | zero => rw [Nat.zero_add]; rfl
  | succ m ih => rw [Nat.succ_add, Ti, ih, Ti]
theorem Ti_shift (n x : Nat) : Ti n (x * 2 ^ n) = x := by
  induction n generalizing x with
  | zero => rw [Nat.pow_zero, Nat.mul_one]; rfl
  | succ n ih =>
    have : x * 2 ^ (n + 1) = (x * 2) * 2 ^ n := by rw [Nat.pow_succ, Nat.mul_assoc, Nat.mul_comm 2]
    rw [this, Ti, ih, T_double]

/-- A number is its upper and its lower part. -/
theorem parts (n x : Nat) : (x / 2 ^ n * 2 ^ n) ^^^ (x % 2 ^ n) = x := by
  apply Nat.eq_of_testBit_eq; intro i
  rw [Nat.testBit_xor, Nat.testBit_mod_two_pow, Nat.testBit_mul_two_pow, Nat.testBit_div_two_pow]
  by_cases h : i < n
  · simp [h, Nat.not_le.mpr h]
  · simp [h, Nat.not_lt.mp h, Nat.sub_add_cancel (Nat.not_lt.mp h)]

/-- What four steps add, for each four bits that fall out. -/
def quarts : List Nat := [0, 498536548, 997073096, 651767980, 1994146192, 1802195444, 1303535960, 1342533948, 3988292384, 4027552580, 3604390888, 3412177804, 2607071920, 2262029012, 2685067896, 3183342108]
theorem quarts_eq : ∀ i, i < 16 → quarts.getD i 0 = Ti 4 i := by decide
/-- Four steps at once. -/
theorem four (x : Nat) : x / 16 ^^^ quarts.getD (x % 16) 0 = Ti 4 x := by
  rw [quarts_eq _ (Nat.mod_lt _ (by decide))]
  conv => rhs; rw [← parts 4 x, Ti_xor, Ti_shift]
/-- The register behind one byte more. -/
def By (r c : Nat) : Nat := Ti 8 (r ^^^ c)
theorem By_four (r c : Nat) : By r c = Ti 4 (Ti 4 (r ^^^ c)) := (Ti_add 4 4 _)
theorem By_lt {r c : Nat} (h : r < 4294967296) (hc : c < 256) : By r c < 4294967296 := Ti_lt 8 (Nat.xor_lt_two_pow (n := 32) h (by omega))
/-- The register behind the first k bits of a byte. -/
theorem bit_step (r c k : Nat) : T (Ti k (r ^^^ c % 2 ^ k) ^^^ (c / 2 ^ k % 2)) = Ti (k + 1) (r ^^^ c % 2 ^ (k + 1)) := by
  have e : c % 2 ^ (k + 1) = (c / 2 ^ k % 2 * 2 ^ k) ^^^ c % 2 ^ k := by
    have := parts k (c % 2 ^ (k + 1))
    rw [← this]
    congr 1
    · congr 1
      rw [Nat.pow_succ, Nat.mod_mul_right_div_self]
    · rw [Nat.mod_mod_of_dvd _ (Nat.pow_dvd_pow 2 (by omega : k ≤ k + 1))]
  rw [e, Ti, Nat.xor_comm (c / 2 ^ k % 2 * 2 ^ k), ← Nat.xor_assoc, Ti_xor k (r ^^^ c % 2 ^ k), Ti_shift]
/-- The register behind bytes. -/
def reg (r : Nat) (l : List Int) : Nat := l.foldl (fun r c => By r c.toNat) r
theorem reg_nil (r : Nat) : reg r [] = r := by unfold reg; rw [List.foldl_nil]
theorem reg_cons (r : Nat) (c : Int) (l : List Int) : reg r (c :: l) = reg (By r c.toNat) l := by unfold reg; rw [List.foldl_cons]
/-- Bytes, each in its range. -/
def Bys (l : List Int) : Prop := ∀ x ∈ l, 0 ≤ x ∧ x < 256
theorem Bys.cons {x : Int} {l : List Int} (h : Bys (x :: l)) : (0 ≤ x ∧ x < 256) ∧ Bys l := ⟨h x (.head _), fun y hy => h y (.tail _ hy)⟩
theorem Bys.append {l m : List Int} (h : Bys l) (k : Bys m) : Bys (l ++ m) := fun x hx => (List.mem_append.mp hx).elim (h x) (k x)
theorem reg_lt (l : List Int) (hl : Bys l) (r : Nat) (h : r < 4294967296) : reg r l < 4294967296 := by
  induction l generalizing r with
  | nil => rw [reg_nil]; exact h
  | cons c l ih => rw [reg_cons]; exact ih hl.cons.2 _ (By_lt h (by have := hl.cons.1; omega))
theorem reg_append (l m : List Int) (r : Nat) : reg r (l ++ m) = reg (reg r l) m := by
  induction l generalizing r with
  | nil => rw [List.nil_append, reg_nil]
  | cons c l ih => rw [List.cons_append, reg_cons, reg_cons]; exact ih _
/-- The sum. -/
def crc (l : List Int) : Nat := 4294967295 ^^^ reg 4294967295 l
theorem crc_lt (l : List Int) (hl : Bys l) : crc l < 4294967296 := Nat.xor_lt_two_pow (n := 32) (by decide) (reg_lt l hl _ (by decide))
theorem reg_of_crc (l : List Int) : reg 4294967295 l = 4294967295 ^^^ crc l := by unfold crc; rw [← Nat.xor_assoc, Nat.xor_self, Nat.zero_xor]
/-- A sum's four bytes, the lowest first. -/
def le4 (n : Nat) : List Int := [(n % 256 : Nat), (n / 256 % 256 : Nat), (n / 65536 % 256 : Nat), (n / 16777216 % 256 : Nat)]
theorem le4_bys (n : Nat) : Bys (le4 n) := by
  intro x hx; simp only [le4, List.mem_cons, List.not_mem_nil, or_false] at hx
  rcases hx with h | h | h | h <;> subst h <;> omega
theorem By_join (r c d : Nat) : By (By r c) d = Ti 16 (r ^^^ c ^^^ d * 256) := by
  unfold By
  rw [show 16 = 8 + 8 from rfl, Ti_add, Ti_xor 8 (r ^^^ c) (d * 256), show 256 = 2 ^ 8 from rfl, Ti_shift 8 d]
theorem parts8 (n : Nat) : (n / 256 * 256) ^^^ (n % 256) = n := parts 8 n
theorem parts16 (n : Nat) : (n / 65536 * 65536) ^^^ (n % 65536) = n := parts 16 n
theorem shift16 (x : Nat) : Ti 16 (x * 65536) = x := Ti_shift 16 x
theorem Ti_32 (x : Nat) : Ti 32 x = Ti 16 (Ti 16 x) := Ti_add 16 16 x
theorem low16 (n : Nat) : n % 256 ^^^ n / 256 % 256 * 256 = n % 65536 := by
  have h := parts8 (n % 65536)
  have x1 : n % 65536 / 256 = n / 256 % 256 := by omega
  have x2 : n % 65536 % 256 = n % 256 := by omega
  rw [x1, x2] at h
  rw [Nat.xor_comm]; exact h
theorem high16 (n : Nat) (hn : n < 4294967296) : n / 65536 % 256 ^^^ n / 16777216 % 256 * 256 = n / 65536 := by
  have h := parts8 (n / 65536)
  have x1 : n / 65536 / 256 = n / 16777216 % 256 := by omega
  rw [x1] at h
  rw [Nat.xor_comm]; exact h
theorem reg4 (r a b c d : Nat) : reg r [(a : Int), (b : Int), (c : Int), (d : Int)] = By (By (By (By r a) b) c) d := by
  rw [reg_cons, reg_cons, reg_cons, reg_cons, reg_nil, Int.toNat_natCast, Int.toNat_natCast, Int.toNat_natCast, Int.toNat_natCast]
theorem reg_le4 (r n : Nat) : reg r (le4 n) = By (By (By (By r (n % 256)) (n / 256 % 256)) (n / 65536 % 256)) (n / 16777216 % 256) := reg4 _ _ _ _ _
theorem four_bytes (r n : Nat) (hn : n < 4294967296) : reg r (le4 n) = Ti 32 (r ^^^ n) := by
  rw [reg_le4, By_join, By_join, Ti_32]
  refine congrArg (Ti 16) ?_
  rw [Nat.xor_assoc r, low16, Nat.xor_assoc (Ti 16 _), high16 n hn]
  have h : r ^^^ n = (r ^^^ n % 65536) ^^^ (n / 65536 * 65536) := by
    rw [Nat.xor_assoc, Nat.xor_comm (n % 65536), parts16]
  rw [h, Ti_xor 16 (r ^^^ n % 65536), shift16]
/-- Behind a text and its own sum the register is always the same. -/
theorem own_sum (l : List Int) (hl : Bys l) : reg 4294967295 (l ++ le4 (crc l)) = 3736805603 := by
  rw [reg_append, four_bytes _ _ (crc_lt l hl), reg_of_crc, Nat.xor_assoc, Nat.xor_self, Nat.xor_zero]
  decide
theorem crc_def (l : List Int) : crc l = 4294967295 ^^^ reg 4294967295 l := rfl
theorem crc_rest (l : List Int) (hl : Bys l) : crc (l ++ le4 (crc l)) = 558161692 := by
  rw [crc_def (l ++ _), own_sum l hl]; decide
theorem crc_forgets (a b c : List Int) (ha : Bys a) (hb : Bys b) : crc (a ++ le4 (crc a) ++ c) = crc (b ++ le4 (crc b) ++ c) := by
  rw [crc_def (_ ++ c), crc_def (_ ++ c), reg_append (a ++ _), reg_append (b ++ _), own_sum a ha, own_sum b hb]
/-- Three texts of one length held against one another. -/
def xor3 : List Int → List Int → List Int → List Int
  | a :: l, b :: m, c :: n => ((a.toNat ^^^ b.toNat ^^^ c.toNat : Nat) : Int) :: xor3 l m n
  | _, _, _ => []
theorem By_xor (r s c d : Nat) : By (r ^^^ s) (c ^^^ d) = By r c ^^^ By s d := by unfold By; rw [xor_swap4, Ti_xor]
theorem reg_linear (a b c : List Int) (r s t : Nat) (h1 : a.length = b.length) (h2 : b.length = c.length) :
    reg (r ^^^ s ^^^ t) (xor3 a b c) = reg r a ^^^ reg s b ^^^ reg t c := by
  induction a generalizing b c r s t with
  | nil =>
    cases b with
    | nil => cases c with
      | nil => rw [xor3, reg_nil, reg_nil, reg_nil, reg_nil]; simp
      | cons _ _ => cases h2
    | cons _ _ => cases h1
  | cons x a ih =>
    cases b with
    | nil => cases h1
    | cons y b => cases c with
      | nil => cases h2
      | cons z c =>
        have e := ih b c (By r x.toNat) (By s y.toNat) (By t z.toNat) (Nat.succ.inj h1) (Nat.succ.inj h2)
        rw [← By_xor, ← By_xor] at e
        rw [xor3, reg_cons, reg_cons, reg_cons, reg_cons, Int.toNat_natCast]
        exact e
theorem reg_linear1 (a b c : List Int) (k : Nat) (h1 : a.length = b.length) (h2 : b.length = c.length) : k ^^^ reg k (xor3 a b c) = (k ^^^ reg k a) ^^^ (k ^^^ reg k b) ^^^ (k ^^^ reg k c) := by
  have h := reg_linear a b c k k k h1 h2
  rw [Nat.xor_self, Nat.zero_xor] at h
  rw [h]
  generalize reg k a = x; generalize reg k b = y; generalize reg k c = z
  rw [xor_swap4 k x k y, Nat.xor_self, Nat.zero_xor, ← Nat.xor_assoc (x ^^^ y), Nat.xor_comm (x ^^^ y) k, Nat.xor_assoc k]
theorem crc_linear (a b c : List Int) (h1 : a.length = b.length) (h2 : b.length = c.length) : crc (xor3 a b c) = crc a ^^^ crc b ^^^ crc c := reg_linear1 a b c _ h1 h2
end Go.Proofs.YtcpapcopnmapmaaDoor
