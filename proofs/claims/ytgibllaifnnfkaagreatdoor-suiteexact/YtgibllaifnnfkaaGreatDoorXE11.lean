/- Of the texts CA: what the card of this claim reaches. -/
import Derived.Test.YtgibllaifnnfkaaGreatDoorXE2
import Derived.Test.YtgibllaifnnfkaaGreatDoorXE3
namespace Go.Proofs.YtgibllaifnnfkaaGreatDoor
structure Ed (n : Nat) [NeZero n] where
  d : Fin n
  i : Fin n
  inv : Fin n → Fin n
  inv_mul : ∀ a, a ≠ 0 → a * inv a = 1
  ii : i * i = -1
  nonsq : ∀ s, s * s ≠ d
  two : (2 : Fin n) ≠ 0
variable {n : Nat} [NeZero n]
theorem Ed.one_ne (E : Ed n) : (1 : Fin n) ≠ 0 := fun h => E.two (by grind)
theorem Ed.zero_or (E : Ed n) {a b : Fin n} (h : a * b = 0) : a = 0 ∨ b = 0 := by
  by_cases ha : a = 0
  · exact .inl ha
  · have := E.inv_mul a ha
    right; grind
theorem Ed.mul_ne (E : Ed n) {a b : Fin n} (ha : a ≠ 0) (hb : b ≠ 0) : a * b ≠ 0 := fun h => (E.zero_or h).elim ha hb
theorem Ed.cancel (E : Ed n) {a b c : Fin n} (ha : a ≠ 0) (h : a * b = a * c) : b = c := by
  have := E.inv_mul a ha
  grind
theorem Ed.not_sq (E : Ed n) {s t : Fin n} (ht : t ≠ 0) (h : s * s = E.d * (t * t)) : False := by
  have h1 := E.inv_mul t ht
  exact E.nonsq (s * E.inv t) (by grind)
def Ed.On (E : Ed n) (x y : Fin n) : Prop := y * y - x * x = 1 + E.d * x * x * y * y
theorem Ed.complete (E : Ed n) {x1 y1 x2 y2 e : Fin n} (h1 : E.On x1 y1) (h2 : E.On x2 y2) (he : e * e = 1) (hk : E.d * x1 * x2 * y1 * y2 = e) : False := by
  unfold Ed.On at h1 h2
  have hii := E.ii
  have hone := E.one_ne
  have hx1 : x1 ≠ 0 := fun h => hone (by grind)
  have hy1 : y1 ≠ 0 := fun h => hone (by grind)
  have hy2 : y2 ≠ 0 := fun h => hone (by grind)
  have hxy := E.mul_ne hx1 hy1
  have s1 : (E.i * x1 + e * y1) * (E.i * x1 + e * y1) = E.d * (x1 * y1 * (E.i * x2 + y2) * (x1 * y1 * (E.i * x2 + y2))) := by grind
  have s2 : (E.i * x1 - e * y1) * (E.i * x1 - e * y1) = E.d * (x1 * y1 * (E.i * x2 - y2) * (x1 * y1 * (E.i * x2 - y2))) := by grind
  by_cases hp : E.i * x2 + y2 = 0
  · by_cases hm : E.i * x2 - y2 = 0
    · have : 2 * y2 = 0 := by grind
      exact (E.zero_or this).elim E.two hy2
    · exact E.not_sq (E.mul_ne hxy hm) s2
  · exact E.not_sq (E.mul_ne hxy hp) s1
theorem Ed.plus_ne (E : Ed n) {x1 y1 x2 y2 : Fin n} (h1 : E.On x1 y1) (h2 : E.On x2 y2) : 1 + E.d * x1 * x2 * y1 * y2 ≠ 0 := fun h => E.complete (e := -1) h1 h2 (by grind) (by grind)
theorem Ed.minus_ne (E : Ed n) {x1 y1 x2 y2 : Fin n} (h1 : E.On x1 y1) (h2 : E.On x2 y2) : 1 - E.d * x1 * x2 * y1 * y2 ≠ 0 := fun h => E.complete (e := 1) h1 h2 (by grind) (by grind)
def Ed.Sum (E : Ed n) (x1 y1 x2 y2 x y : Fin n) : Prop := x * (1 + E.d * x1 * x2 * y1 * y2) = x1 * y2 + y1 * x2 ∧ y * (1 - E.d * x1 * x2 * y1 * y2) = y1 * y2 + x1 * x2
theorem Ed.closed (E : Ed n) {x1 y1 x2 y2 x y : Fin n} (h1 : E.On x1 y1) (h2 : E.On x2 y2) (h : E.Sum x1 y1 x2 y2 x y) : E.On x y := by
  obtain ⟨hx, hy⟩ := h
  have nu := E.plus_ne h1 h2
  have nv := E.minus_ne h1 h2
  unfold Ed.On at h1 h2 ⊢
  have nw := E.mul_ne (E.mul_ne nu nv) (E.mul_ne nu nv)
  have key : (y1 * y2 + x1 * x2) * (y1 * y2 + x1 * x2) * (1 + E.d * x1 * x2 * y1 * y2) * (1 + E.d * x1 * x2 * y1 * y2) - (x1 * y2 + y1 * x2) * (x1 * y2 + y1 * x2) * (1 - E.d * x1 * x2 * y1 * y2) * (1 - E.d * x1 * x2 * y1 * y2) = (1 - E.d * x1 * x2 * y1 * y2) * (1 - E.d * x1 * x2 * y1 * y2) * (1 + E.d * x1 * x2 * y1 * y2) * (1 + E.d * x1 * x2 * y1 * y2) + E.d * (y1 * y2 + x1 * x2) * (y1 * y2 + x1 * x2) * (x1 * y2 + y1 * x2) * (x1 * y2 + y1 * x2) := by
    clear hx hy nu nv nw
    grind
  generalize x1 * y2 + y1 * x2 = a at *
  generalize y1 * y2 + x1 * x2 = b at *
  generalize 1 + E.d * x1 * x2 * y1 * y2 = u at *
  generalize 1 - E.d * x1 * x2 * y1 * y2 = v at *
  clear h1 h2
  refine E.cancel nw ?_
  grind
theorem assoc_x (d x1 y1 x2 y2 x3 y3 : Fin n) (h1 : y1 * y1 - x1 * x1 = 1 + d * x1 * x1 * y1 * y1) (h2 : y2 * y2 - x2 * x2 = 1 + d * x2 * x2 * y2 * y2) (h3 : y3 * y3 - x3 * x3 = 1 + d * x3 * x3 * y3 * y3) :
    ((x1 * y2 + y1 * x2) * y3 * (1 - d * x1 * x2 * y1 * y2) + (y1 * y2 + x1 * x2) * x3 * (1 + d * x1 * x2 * y1 * y2)) * ((1 + d * x2 * x3 * y2 * y3) * (1 - d * x2 * x3 * y2 * y3) + d * x1 * y1 * (x2 * y3 + y2 * x3) * (y2 * y3 + x2 * x3))
      = (x1 * (y2 * y3 + x2 * x3) * (1 + d * x2 * x3 * y2 * y3) + y1 * (x2 * y3 + y2 * x3) * (1 - d * x2 * x3 * y2 * y3)) * ((1 + d * x1 * x2 * y1 * y2) * (1 - d * x1 * x2 * y1 * y2) + d * (x1 * y2 + y1 * x2) * (y1 * y2 + x1 * x2) * x3 * y3) := by grind
theorem assoc_y (d x1 y1 x2 y2 x3 y3 : Fin n) (h1 : y1 * y1 - x1 * x1 = 1 + d * x1 * x1 * y1 * y1) (h2 : y2 * y2 - x2 * x2 = 1 + d * x2 * x2 * y2 * y2) (h3 : y3 * y3 - x3 * x3 = 1 + d * x3 * x3 * y3 * y3) :
    ((y1 * y2 + x1 * x2) * y3 * (1 + d * x1 * x2 * y1 * y2) + (x1 * y2 + y1 * x2) * x3 * (1 - d * x1 * x2 * y1 * y2)) * ((1 + d * x2 * x3 * y2 * y3) * (1 - d * x2 * x3 * y2 * y3) - d * x1 * y1 * (x2 * y3 + y2 * x3) * (y2 * y3 + x2 * x3))
      = (y1 * (y2 * y3 + x2 * x3) * (1 + d * x2 * x3 * y2 * y3) + x1 * (x2 * y3 + y2 * x3) * (1 - d * x2 * x3 * y2 * y3)) * ((1 + d * x1 * x2 * y1 * y2) * (1 - d * x1 * x2 * y1 * y2) - d * (x1 * y2 + y1 * x2) * (y1 * y2 + x1 * x2) * x3 * y3) := by grind
end Go.Proofs.YtgibllaifnnfkaaGreatDoor
namespace Go.Proofs.YtgibllaifnnfkaaGreatDoor
variable {n : Nat} [NeZero n]
structure Pt (E : Ed n) where
  x : Fin n
  y : Fin n
  on : E.On x y
variable {E : Ed n}
theorem Pt.ext' {P Q : Pt E} (hx : P.x = Q.x) (hy : P.y = Q.y) : P = Q := by
  obtain ⟨x, y, h⟩ := P
  obtain ⟨x', y', h'⟩ := Q
  subst hx hy
  rfl
theorem Ed.sum_mk (E : Ed n) {x1 y1 x2 y2 : Fin n} (h1 : E.On x1 y1) (h2 : E.On x2 y2) : E.Sum x1 y1 x2 y2 ((x1 * y2 + y1 * x2) * E.inv (1 + E.d * x1 * x2 * y1 * y2)) ((y1 * y2 + x1 * x2) * E.inv (1 - E.d * x1 * x2 * y1 * y2)) := by
  have a := E.inv_mul _ (E.plus_ne h1 h2)
  have b := E.inv_mul _ (E.minus_ne h1 h2)
  constructor
  · grind
  · grind
def Pt.add (P Q : Pt E) : Pt E := ⟨(P.x * Q.y + P.y * Q.x) * E.inv (1 + E.d * P.x * Q.x * P.y * Q.y), (P.y * Q.y + P.x * Q.x) * E.inv (1 - E.d * P.x * Q.x * P.y * Q.y), E.closed P.on Q.on (E.sum_mk P.on Q.on)⟩
theorem Pt.add_sum (P Q : Pt E) : E.Sum P.x P.y Q.x Q.y (P.add Q).x (P.add Q).y := E.sum_mk P.on Q.on
theorem Pt.add_unique (P Q : Pt E) {x y : Fin n} (h : E.Sum P.x P.y Q.x Q.y x y) : (P.add Q).x = x ∧ (P.add Q).y = y := by
  obtain ⟨h1, h2⟩ := P.add_sum Q
  obtain ⟨h3, h4⟩ := h
  constructor
  · exact E.cancel (E.plus_ne P.on Q.on) (by grind)
  · exact E.cancel (E.minus_ne P.on Q.on) (by grind)
theorem Pt.add_is {P Q R : Pt E} (h : E.Sum P.x P.y Q.x Q.y R.x R.y) : P.add Q = R := Pt.ext' (P.add_unique Q h).1 (P.add_unique Q h).2
theorem Pt.add_comm (P Q : Pt E) : P.add Q = Q.add P := by
  obtain ⟨h1, h2⟩ := Q.add_sum P
  exact Pt.add_is ⟨by grind, by grind⟩
def Pt.zero : Pt E := ⟨0, 1, by unfold Ed.On; grind⟩
theorem Pt.zero_add (P : Pt E) : Pt.zero.add P = P := Pt.add_is ⟨by simp only [Pt.zero]; grind, by simp only [Pt.zero]; grind⟩
theorem Pt.add_zero (P : Pt E) : P.add Pt.zero = P := by rw [Pt.add_comm, Pt.zero_add]
theorem sum_left {d x1 y1 x2 y2 x3 y3 X Y A B : Fin n} (hX : X * (1 + d * x1 * x2 * y1 * y2) = x1 * y2 + y1 * x2) (hY : Y * (1 - d * x1 * x2 * y1 * y2) = y1 * y2 + x1 * x2) (hA : A * (1 + d * X * x3 * Y * y3) = X * y3 + Y * x3) (hB : B * (1 - d * X * x3 * Y * y3) = Y * y3 + X * x3) :
    A * ((1 + d * x1 * x2 * y1 * y2) * (1 - d * x1 * x2 * y1 * y2) + d * (x1 * y2 + y1 * x2) * (y1 * y2 + x1 * x2) * x3 * y3) = (x1 * y2 + y1 * x2) * y3 * (1 - d * x1 * x2 * y1 * y2) + (y1 * y2 + x1 * x2) * x3 * (1 + d * x1 * x2 * y1 * y2)
    ∧ B * ((1 + d * x1 * x2 * y1 * y2) * (1 - d * x1 * x2 * y1 * y2) - d * (x1 * y2 + y1 * x2) * (y1 * y2 + x1 * x2) * x3 * y3) = (y1 * y2 + x1 * x2) * y3 * (1 + d * x1 * x2 * y1 * y2) + (x1 * y2 + y1 * x2) * x3 * (1 - d * x1 * x2 * y1 * y2) := by
  generalize 1 + d * x1 * x2 * y1 * y2 = u at *
  generalize 1 - d * x1 * x2 * y1 * y2 = v at *
  rw [← hX, ← hY]
  constructor
  · grind
  · grind
theorem left_ne (E : Ed n) {x1 y1 x2 y2 x3 y3 X Y : Fin n} (h1 : E.On x1 y1) (h2 : E.On x2 y2) (h3 : E.On x3 y3) (h : E.Sum x1 y1 x2 y2 X Y) :
    (1 + E.d * x1 * x2 * y1 * y2) * (1 - E.d * x1 * x2 * y1 * y2) + E.d * (x1 * y2 + y1 * x2) * (y1 * y2 + x1 * x2) * x3 * y3 ≠ 0 ∧ (1 + E.d * x1 * x2 * y1 * y2) * (1 - E.d * x1 * x2 * y1 * y2) - E.d * (x1 * y2 + y1 * x2) * (y1 * y2 + x1 * x2) * x3 * y3 ≠ 0 := by
  have hO := E.closed h1 h2 h
  have nu := E.plus_ne h1 h2
  have nv := E.minus_ne h1 h2
  have np := E.mul_ne (E.mul_ne nu nv) (E.plus_ne hO h3)
  have nm := E.mul_ne (E.mul_ne nu nv) (E.minus_ne hO h3)
  obtain ⟨hX, hY⟩ := h
  generalize 1 + E.d * x1 * x2 * y1 * y2 = u at *
  generalize 1 - E.d * x1 * x2 * y1 * y2 = v at *
  rw [← hX, ← hY]
  constructor
  · intro e; exact np (by grind)
  · intro e; exact nm (by grind)
theorem sum_right {d x1 y1 x2 y2 x3 y3 U V A B : Fin n} (hU : U * (1 + d * x2 * x3 * y2 * y3) = x2 * y3 + y2 * x3) (hV : V * (1 - d * x2 * x3 * y2 * y3) = y2 * y3 + x2 * x3) (hA : A * (1 + d * x1 * U * y1 * V) = x1 * V + y1 * U) (hB : B * (1 - d * x1 * U * y1 * V) = y1 * V + x1 * U) :
    A * ((1 + d * x2 * x3 * y2 * y3) * (1 - d * x2 * x3 * y2 * y3) + d * x1 * y1 * (x2 * y3 + y2 * x3) * (y2 * y3 + x2 * x3)) = x1 * (y2 * y3 + x2 * x3) * (1 + d * x2 * x3 * y2 * y3) + y1 * (x2 * y3 + y2 * x3) * (1 - d * x2 * x3 * y2 * y3)
    ∧ B * ((1 + d * x2 * x3 * y2 * y3) * (1 - d * x2 * x3 * y2 * y3) - d * x1 * y1 * (x2 * y3 + y2 * x3) * (y2 * y3 + x2 * x3)) = y1 * (y2 * y3 + x2 * x3) * (1 + d * x2 * x3 * y2 * y3) + x1 * (x2 * y3 + y2 * x3) * (1 - d * x2 * x3 * y2 * y3) := by
  generalize 1 + d * x2 * x3 * y2 * y3 = u at *
  generalize 1 - d * x2 * x3 * y2 * y3 = v at *
  rw [← hU, ← hV]
  constructor
  · grind
  · grind
theorem right_ne (E : Ed n) {x1 y1 x2 y2 x3 y3 U V : Fin n} (h1 : E.On x1 y1) (h2 : E.On x2 y2) (h3 : E.On x3 y3) (h : E.Sum x2 y2 x3 y3 U V) :
    (1 + E.d * x2 * x3 * y2 * y3) * (1 - E.d * x2 * x3 * y2 * y3) + E.d * x1 * y1 * (x2 * y3 + y2 * x3) * (y2 * y3 + x2 * x3) ≠ 0 ∧ (1 + E.d * x2 * x3 * y2 * y3) * (1 - E.d * x2 * x3 * y2 * y3) - E.d * x1 * y1 * (x2 * y3 + y2 * x3) * (y2 * y3 + x2 * x3) ≠ 0 := by
  have hO := E.closed h2 h3 h
  have nu := E.plus_ne h2 h3
  have nv := E.minus_ne h2 h3
  have np := E.mul_ne (E.mul_ne nu nv) (E.plus_ne h1 hO)
  have nm := E.mul_ne (E.mul_ne nu nv) (E.minus_ne h1 hO)
  obtain ⟨hU, hV⟩ := h
  generalize 1 + E.d * x2 * x3 * y2 * y3 = u at *
  generalize 1 - E.d * x2 * x3 * y2 * y3 = v at *
  rw [← hU, ← hV]
  constructor
  · intro e; exact np (by grind)
  · intro e; exact nm (by grind)
theorem Ed.same (E : Ed n) {a b u v p q : Fin n} (hu : u ≠ 0) (hv : v ≠ 0) (ha : a * u = p) (hb : b * v = q) (h : p * v = q * u) : a = b := by
  refine E.cancel (E.mul_ne hu hv) ?_
  rw [← ha, ← hb] at h
  grind
theorem Pt.add_assoc (P Q R : Pt E) : (P.add Q).add R = P.add (Q.add R) := by
  have hPQ := P.add_sum Q
  have hQR := Q.add_sum R
  have hL := (P.add Q).add_sum R
  have hR := P.add_sum (Q.add R)
  obtain ⟨nA, nB⟩ := left_ne E P.on Q.on R.on hPQ
  obtain ⟨nC, nD⟩ := right_ne E P.on Q.on R.on hQR
  obtain ⟨lA, lB⟩ := sum_left hPQ.1 hPQ.2 hL.1 hL.2
  obtain ⟨rA, rB⟩ := sum_right hQR.1 hQR.2 hR.1 hR.2
  have ax := assoc_x E.d P.x P.y Q.x Q.y R.x R.y P.on Q.on R.on
  have ay := assoc_y E.d P.x P.y Q.x Q.y R.x R.y P.on Q.on R.on
  exact Pt.ext' (E.same nA nC lA rA ax) (E.same nB nD lB rB ay)
def Pt.times : Nat → Pt E → Pt E
  | 0, _ => Pt.zero
  | k + 1, P => (Pt.times k P).add P
theorem Pt.times_zero (P : Pt E) : Pt.times 0 P = Pt.zero := rfl
theorem Pt.times_succ (k : Nat) (P : Pt E) : Pt.times (k + 1) P = (Pt.times k P).add P := rfl
theorem Pt.times_one (P : Pt E) : Pt.times 1 P = P := by rw [Pt.times_succ, Pt.times_zero, Pt.zero_add]
theorem Pt.times_add (j : Nat) (P : Pt E) : ∀ k, Pt.times (j + k) P = (Pt.times j P).add (Pt.times k P)
  | 0 => by rw [Nat.add_zero, Pt.times_zero, Pt.add_zero]
  | k + 1 => by rw [← Nat.add_assoc, Pt.times_succ, Pt.times_succ, Pt.times_add j P k, Pt.add_assoc]
theorem Pt.times_mul (j : Nat) (P : Pt E) : ∀ k, Pt.times (j * k) P = Pt.times k (Pt.times j P)
  | 0 => rfl
  | k + 1 => by rw [Nat.mul_succ, Pt.times_add, Pt.times_mul j P k, Pt.times_succ]
theorem Pt.times_nought : ∀ k, Pt.times k (Pt.zero : Pt E) = Pt.zero
  | 0 => rfl
  | k + 1 => by rw [Pt.times_succ, Pt.times_nought k, Pt.zero_add]
theorem Pt.times_mod {l : Nat} {P : Pt E} (h : Pt.times l P = Pt.zero) (k : Nat) : Pt.times (k % l) P = Pt.times k P := by
  conv => rhs; rw [← Nat.div_add_mod k l]
  rw [Pt.times_add, Pt.times_mul, h, Pt.times_nought, Pt.zero_add]
end Go.Proofs.YtgibllaifnnfkaaGreatDoor
namespace Go.Proofs.YtgibllaifnnfkaaGreatDoor
section
variable {n : Nat} [NeZero n] {E : Ed n}
structure Rep (P : Pt E) (X Y Z T : Fin n) : Prop where
  hx : X = P.x * Z
  hy : Y = P.y * Z
  ht : T = P.x * P.y * Z
  hz : Z ≠ 0
theorem rep_parts {d x1 y1 z1 x2 y2 z2 x3 y3 h f g i : Fin n} (hh : h = (y1 * z1 + x1 * z1) * (y2 * z2 + x2 * z2) - (y1 * z1 - x1 * z1) * (y2 * z2 - x2 * z2)) (hi : i = (y1 * z1 + x1 * z1) * (y2 * z2 + x2 * z2) + (y1 * z1 - x1 * z1) * (y2 * z2 - x2 * z2))
    (hf : f = z1 * z2 + z1 * z2 - (x1 * y1 * z1 * d * (x2 * y2 * z2) + x1 * y1 * z1 * d * (x2 * y2 * z2))) (hg : g = z1 * z2 + z1 * z2 + (x1 * y1 * z1 * d * (x2 * y2 * z2) + x1 * y1 * z1 * d * (x2 * y2 * z2)))
    (sx : x3 * (1 + d * x1 * x2 * y1 * y2) = x1 * y2 + y1 * x2) (sy : y3 * (1 - d * x1 * x2 * y1 * y2) = y1 * y2 + x1 * x2) :
    h = x3 * g ∧ i = y3 * f ∧ f = 2 * (z1 * z2) * (1 - d * x1 * x2 * y1 * y2) ∧ g = 2 * (z1 * z2) * (1 + d * x1 * x2 * y1 * y2) := by
  have e1 : f = 2 * (z1 * z2) * (1 - d * x1 * x2 * y1 * y2) := by rw [hf]; grind
  have e2 : g = 2 * (z1 * z2) * (1 + d * x1 * x2 * y1 * y2) := by rw [hg]; grind
  refine ⟨?_, ?_, e1, e2⟩
  · rw [hh, e2]; grind
  · rw [hi, e1]; grind
theorem Rep.plus {P Q : Pt E} {X1 Y1 Z1 T1 X2 Y2 Z2 T2 h f g i : Fin n} (r1 : Rep P X1 Y1 Z1 T1) (r2 : Rep Q X2 Y2 Z2 T2) (hh : h = (Y1 + X1) * (Y2 + X2) - (Y1 - X1) * (Y2 - X2)) (hi : i = (Y1 + X1) * (Y2 + X2) + (Y1 - X1) * (Y2 - X2))
    (hf : f = Z1 * Z2 + Z1 * Z2 - (T1 * E.d * T2 + T1 * E.d * T2)) (hg : g = Z1 * Z2 + Z1 * Z2 + (T1 * E.d * T2 + T1 * E.d * T2)) : Rep (P.add Q) (h * f) (g * i) (f * g) (h * i) := by
  obtain ⟨rfl, rfl, rfl, hz1⟩ := r1
  obtain ⟨rfl, rfl, rfl, hz2⟩ := r2
  obtain ⟨sx, sy⟩ := P.add_sum Q
  obtain ⟨eh, ei, ef, eg⟩ := rep_parts hh hi hf hg sx sy
  have nz := E.mul_ne E.two (E.mul_ne hz1 hz2)
  have nf : f ≠ 0 := by rw [ef]; exact E.mul_ne nz (E.minus_ne P.on Q.on)
  have ng : g ≠ 0 := by rw [eg]; exact E.mul_ne nz (E.plus_ne P.on Q.on)
  clear hh hi hf hg ef eg sx sy
  exact ⟨by rw [eh]; grind, by rw [ei]; grind, by rw [eh, ei]; grind, E.mul_ne nf ng⟩
theorem Rep.zero : Rep (Pt.zero : Pt E) 0 1 1 0 := ⟨by simp only [Pt.zero]; grind, by simp only [Pt.zero]; grind, by simp only [Pt.zero]; grind, E.one_ne⟩
theorem Rep.ofPt (P : Pt E) : Rep P P.x P.y 1 (P.x * P.y) := ⟨by grind, by grind, by grind, E.one_ne⟩
theorem Rep.is_zero {P : Pt E} {X Y Z T : Fin n} (r : Rep P X Y Z T) (hX : X = 0) (hY : Y = Z) : P = Pt.zero := by
  obtain ⟨hx, hy, -, hz⟩ := r
  refine Pt.ext' ?_ ?_
  · rw [hX] at hx
    exact (E.zero_or hx.symm).resolve_right hz
  · rw [hY] at hy
    have : Z * P.y = Z * 1 := by grind
    exact E.cancel hz this
end
instance : NeZero pp := ⟨by decide⟩
def fq (a : Nat) : Fin pp := Fin.ofNat pp a
theorem fq_val (a : Nat) : (fq a).val = a % pp := rfl
theorem fq_eq {a b : Nat} : fq a = fq b ↔ a % pp = b % pp := ⟨fun h => congrArg Fin.val h, fun h => Fin.ext h⟩
theorem fq_of (x : Fin pp) : fq x.val = x := Fin.ext (Nat.mod_eq_of_lt x.isLt)
theorem fq_mod (a : Nat) : fq (a % pp) = fq a := fq_eq.2 (Nat.mod_mod _ _)
theorem fq_add (a b : Nat) : fq (a + b) = fq a + fq b := Fin.ext (by show (a + b) % pp = (a % pp + b % pp) % pp; rw [← Nat.add_mod])
theorem fq_mul (a b : Nat) : fq (a * b) = fq a * fq b := Fin.ext (by show (a * b) % pp = (a % pp * (b % pp)) % pp; rw [← Nat.mul_mod])
theorem fq_zero : fq 0 = 0 := rfl
theorem fq_one : fq 1 = 1 := rfl
theorem fq_addm (a b : Nat) : fq ((a + b) % pp) = fq a + fq b := by rw [fq_mod, fq_add]
theorem fq_mulm (a b : Nat) : fq (a * b % pp) = fq a * fq b := by rw [fq_mod, fq_mul]
theorem fq_subm (a b : Nat) : fq ((a % pp + pp - b % pp) % pp) = fq a - fq b := by
  have h : fq ((a % pp + pp - b % pp) % pp) + fq b = fq a := by
    rw [fq_mod, ← fq_mod b, ← fq_add, Nat.sub_add_cancel (Nat.le_trans (Nat.le_of_lt (Nat.mod_lt _ pp_pos)) (Nat.le_add_left _ _))]
    rw [fq_eq, Nat.add_mod_right, Nat.mod_mod]
  generalize fq ((a % pp + pp - b % pp) % pp) = x at *
  grind
theorem fq_ne {a : Nat} (h : fq a ≠ 0) : a % pp ≠ 0 := fun e => h (fq_eq.2 (by rw [e, Nat.zero_mod]))
theorem fq_inv {a : Nat} (h : fq a ≠ 0) : fq a * fq (finv a) = 1 := by
  rw [← fq_mul, ← fq_one, fq_eq, finv_mul (fq_ne h), one_mod]
def dd : Nat := 37095705934669439343138083508754565189542113879843219016388785533085940283555
theorem dd_lt : dd < pp := by decide +kernel
theorem dd_euler : dd ^ ((pp - 1) / 2) % pp = pp - 1 := by
  rw [← pw_spec pp 256 dd ((pp - 1) / 2) (by decide)]; decide +kernel
theorem half_pp {h : Nat} (e : (pp - 1) / 2 = h) : pp - 1 = 2 * h := by
  have := pp_odd
  omega
theorem no_root {s h : Nat} (e : (pp - 1) / 2 = h) (hs : s * s % pp = dd % pp) : False := by
  have h1 := dd_euler
  rw [e] at h1
  have h2 : (s * s) ^ h % pp = pp - 1 := by rw [Nat.pow_mod, hs, ← Nat.pow_mod]; exact h1
  have h3 : (s * s) ^ h = s ^ (pp - 1) := by rw [half_pp e, Nat.pow_mul, Nat.pow_two]
  rw [h3] at h2
  by_cases hd : pp ∣ s
  · have : s * s % pp = 0 := by rw [Nat.mul_mod, Nat.mod_eq_zero_of_dvd hd, Nat.zero_mul, Nat.zero_mod]
    rw [this, Nat.mod_eq_of_lt dd_lt] at hs
    exact absurd hs (by decide)
  · rw [pp_prime.fermat1 hd, one_mod] at h2
    exact absurd h2 (by decide)
def E5 : Ed pp where
  d := fq dd
  i := fq fi
  inv := fun a => fq (finv a.val)
  inv_mul := fun a ha => by
    have := fq_inv (a := a.val) (by rw [fq_of]; exact ha)
    rwa [fq_of] at this
  ii := by
    have h : fq fi * fq fi + 1 = 0 := by
      rw [← fq_mul, ← fq_one, ← fq_add, ← fq_zero, fq_eq, Nat.add_mod, fi_sq]
      decide
    generalize fq fi = x at *
    grind
  nonsq := fun s hs => by
    refine no_root (s := s.val) rfl ?_
    have : fq (s.val * s.val) = fq dd := by rw [fq_mul, fq_of]; exact hs
    exact fq_eq.1 this
  two := fun h => by
    have : fq 2 = fq 0 := h
    rw [fq_eq] at this
    exact absurd this (by decide)
theorem E5_d : E5.d = fq dd := rfl
end Go.Proofs.YtgibllaifnnfkaaGreatDoor
namespace Go.Proofs.YtgibllaifnnfkaaGreatDoor
structure N4 where
  X : Nat
  Y : Nat
  Z : Nat
  T : Nat
def subp (a b : Nat) : Nat := (a % pp + pp - b % pp) % pp
theorem fq_sub' (a b : Nat) : fq (subp a b) = fq a - fq b := fq_subm a b
def plus4 (p q : N4) : N4 :=
  let a := subp p.Y p.X * subp q.Y q.X % pp
  let b := (p.Y + p.X) % pp * ((q.Y + q.X) % pp) % pp
  let c0 := p.T * dd % pp * q.T % pp
  let c := (c0 + c0) % pp
  let e0 := p.Z * q.Z % pp
  let e := (e0 + e0) % pp
  let h := subp b a
  let f := subp e c
  let g := (e + c) % pp
  let i := (b + a) % pp
  ⟨h * f % pp, g * i % pp, f * g % pp, h * i % pp⟩
def Rep4 (P : Pt E5) (r : N4) : Prop := Rep P (fq r.X) (fq r.Y) (fq r.Z) (fq r.T)
theorem Rep4.plus {P Q : Pt E5} {p q : N4} (h1 : Rep4 P p) (h2 : Rep4 Q q) : Rep4 (P.add Q) (plus4 p q) := by
  unfold Rep4 plus4
  simp only [fq_mulm, fq_addm, fq_sub']
  exact Rep.plus h1 h2 rfl (by grind) rfl rfl
def zero4 : N4 := ⟨0, 1, 1, 0⟩
theorem Rep4.zero : Rep4 (Pt.zero : Pt E5) zero4 := Rep.zero
def mul4 (p : N4) : Nat → Nat → N4
  | 0, _ => zero4
  | f + 1, k => if k % 2 = 1 then plus4 (plus4 (mul4 p f (k / 2)) (mul4 p f (k / 2))) p else plus4 (mul4 p f (k / 2)) (mul4 p f (k / 2))
theorem Rep4.mul {P : Pt E5} {p : N4} (h : Rep4 P p) : ∀ f k, k < 2 ^ f → Rep4 (Pt.times k P) (mul4 p f k)
  | 0, k, hk => by
    obtain rfl : k = 0 := by simpa using hk
    exact Rep4.zero
  | f + 1, k, hk => by
    have hh : k / 2 < 2 ^ f := by rw [Nat.pow_succ] at hk; omega
    have ih := Rep4.mul h f (k / 2) hh
    have hd := ih.plus ih
    rw [← Pt.times_add] at hd
    rw [mul4]
    split
    · have := hd.plus h
      rwa [← Pt.times_succ, show k / 2 + k / 2 + 1 = k by omega] at this
    · rwa [show k / 2 + k / 2 = k by omega] at hd
def bxN : Nat := 15112221349535400772501151409588531511454012693041857206046113283949847762202
def byN : Nat := 46316835694926478169428394003475163141307993866256225615783033603165251855960
theorem base_on : E5.On (fq bxN) (fq byN) := by
  have h : fq (byN * byN) = fq (1 + dd * bxN * bxN * byN * byN + bxN * bxN) := fq_eq.2 (by decide +kernel)
  unfold Ed.On
  rw [E5_d]
  simp only [fq_add, fq_mul, fq_one] at h
  generalize fq bxN = x at *
  generalize fq byN = y at *
  generalize fq dd = d at *
  grind
def BP : Pt E5 := ⟨fq bxN, fq byN, base_on⟩
def base4 : N4 := ⟨bxN, byN, 1, bxN * byN⟩
theorem base_rep : Rep4 BP base4 := by
  unfold Rep4 base4
  rw [fq_mul]
  exact Rep.ofPt BP
def nought4 (r : N4) : Bool := r.X % pp == 0 && r.Y % pp == r.Z % pp
theorem Rep4.nought {P : Pt E5} {r : N4} (h : Rep4 P r) (hn : nought4 r = true) : P = Pt.zero := by
  unfold nought4 at hn
  simp only [Bool.and_eq_true, beq_iff_eq] at hn
  exact Rep.is_zero h (by rw [← fq_zero, fq_eq, hn.1, Nat.zero_mod]) (fq_eq.2 hn.2)
end Go.Proofs.YtgibllaifnnfkaaGreatDoor
namespace Go.Proofs.YtgibllaifnnfkaaGreatDoor
def HH : Nat := 57896044618658097711785492504343953926634992332820282019728792003956564819968
theorem pp_HH : pp < HH := by decide
theorem HH_pos : 0 < HH := by decide
def enc (P : Pt E5) : Nat := P.y.val + HH * (P.x.val % 2)
theorem enc_y (P : Pt E5) : enc P % HH = P.y.val := by
  unfold enc
  rw [Nat.add_mul_mod_self_left, Nat.mod_eq_of_lt (Nat.lt_trans P.y.isLt pp_HH)]
theorem enc_odd (P : Pt E5) : enc P / HH = P.x.val % 2 := by
  unfold enc
  rw [Nat.add_mul_div_left _ _ HH_pos, Nat.div_eq_of_lt (Nat.lt_trans P.y.isLt pp_HH), Nat.zero_add]
theorem enc_lt (P : Pt E5) : enc P < 2 * HH := by
  unfold enc
  have h1 := Nat.lt_trans P.y.isLt pp_HH
  have h2 : HH * (P.x.val % 2) ≤ HH * 1 := Nat.mul_le_mul_left _ (by omega)
  omega
theorem fq_neg_val {x : Fin pp} (hx : x ≠ 0) : (-x).val = pp - x.val := by
  have h0 : x.val ≠ 0 := fun h => hx (Fin.ext h)
  have hlt := x.isLt
  have e : fq (pp - x.val) = -x := by
    have h : fq (pp - x.val) + fq x.val = 0 := by
      rw [← fq_add, Nat.sub_add_cancel (Nat.le_of_lt hlt), ← fq_zero, fq_eq, Nat.mod_self, Nat.zero_mod]
    rw [fq_of] at h
    generalize fq (pp - x.val) = z at *
    grind
  rw [← e, fq_val, Nat.mod_eq_of_lt (by omega)]
theorem odd_neg {x : Fin pp} (hx : x ≠ 0) : (-x).val % 2 ≠ x.val % 2 := by
  have h0 : x.val ≠ 0 := fun h => hx (Fin.ext h)
  have hlt := x.isLt
  have hp := pp_odd
  rw [fq_neg_val hx]
  omega
theorem Ed.den_ne {n : Nat} [NeZero n] (E : Ed n) (y : Fin n) : 1 + E.d * y * y ≠ 0 := fun h => by
  have hone := E.one_ne
  have hii := E.ii
  have hy : y ≠ 0 := fun e => hone (by grind)
  exact E.not_sq (s := E.i) hy (by grind)
theorem Ed.on_iff {n : Nat} [NeZero n] (E : Ed n) (x y : Fin n) : E.On x y ↔ x * x * (1 + E.d * y * y) = y * y - 1 := by
  unfold Ed.On
  constructor
  · intro h; grind
  · intro h; grind
theorem Ed.sq_or {n : Nat} [NeZero n] (E : Ed n) {x z : Fin n} (h : x * x = z * z) : x = z ∨ x = -z := by
  have : (x - z) * (x + z) = 0 := by grind
  rcases E.zero_or this with h1 | h1
  · left; grind
  · right; grind
theorem on_sq {P Q : Pt E5} (h : P.y = Q.y) : P.x = Q.x ∨ P.x = -Q.x := by
  have h1 := (E5.on_iff _ _).1 P.on
  have h2 := (E5.on_iff _ _).1 Q.on
  rw [h] at h1
  have hd := E5.den_ne Q.y
  refine E5.sq_or (E5.cancel hd ?_)
  grind
theorem enc_inj {P Q : Pt E5} (h : enc P = enc Q) : P = Q := by
  have hy : P.y = Q.y := Fin.ext (by rw [← enc_y, ← enc_y, h])
  have ho : P.x.val % 2 = Q.x.val % 2 := by rw [← enc_odd, ← enc_odd, h]
  refine Pt.ext' ?_ hy
  rcases on_sq hy with hx | hx
  · exact hx
  · by_cases h0 : Q.x = 0
    · rw [hx, h0]; grind
    · rw [hx] at ho
      exact absurd ho (odd_neg h0)
def usq (y : Nat) : Nat := subp (y * y % pp) 1 * finv ((dd * (y * y % pp) % pp + 1) % pp) % pp
theorem usq_eq (y : Nat) : fq (usq y) * (1 + E5.d * fq y * fq y) = fq y * fq y - 1 := by
  have hd := E5.den_ne (fq y)
  unfold usq
  rw [fq_mulm, fq_sub', fq_mulm, fq_one]
  have e : fq ((dd * (y * y % pp) % pp + 1) % pp) = 1 + E5.d * fq y * fq y := by
    rw [fq_addm, fq_mulm, fq_mulm, fq_one, E5_d]; grind
  have hi := fq_inv (a := (dd * (y * y % pp) % pp + 1) % pp) (by rw [e]; exact hd)
  rw [e] at hi
  generalize fq (finv ((dd * (y * y % pp) % pp + 1) % pp)) = v at *
  generalize 1 + E5.d * fq y * fq y = u at *
  grind
theorem on_usq (x y : Nat) : E5.On (fq x) (fq y) ↔ x * x % pp = usq y % pp := by
  rw [E5.on_iff, ← usq_eq, ← fq_eq, fq_mul]
  constructor
  · intro h
    have hd := E5.den_ne (fq y)
    refine E5.cancel hd ?_
    generalize 1 + E5.d * fq y * fq y = u at *
    grind
  · intro h
    rw [h]
theorem pt_usq (P : Pt E5) : P.x.val * P.x.val % pp = usq P.y.val % pp := (on_usq _ _).1 (by rw [fq_of, fq_of]; exact P.on)
theorem dec_noroot {b : Nat} (h : froot (usq (b % HH)) = none) (P : Pt E5) : enc P ≠ b := fun e => by
  have h1 := pt_usq P
  rw [← enc_y, e] at h1
  exact froot_none h _ h1
theorem dec_noside {b : Nat} (h : froot (usq (b % HH)) = some 0) (ho : b / HH = 1) (P : Pt E5) : enc P ≠ b := fun e => by
  have h1 := pt_usq P
  rw [← enc_y, e] at h1
  have h2 := (froot_some h).2.2
  rw [← h2] at h1
  have h3 : fq P.x.val * fq P.x.val = 0 := by rw [← fq_mul, ← fq_zero, fq_eq, h1]
  rw [fq_of] at h3
  have h4 : P.x = 0 := (E5.zero_or h3).elim id id
  have h5 := enc_odd P
  rw [e, ho, h4] at h5
  exact absurd h5 (by decide)
theorem neg_sub' (x : Nat) : fq (subp 0 x) = -fq x := by
  rw [fq_sub', fq_zero]; grind
theorem dec_even {b x : Nat} (hy : b % HH < pp) (h : froot (usq (b % HH)) = some x) (ho : b / HH = 0) : ∃ P : Pt E5, enc P = b ∧ P.x = fq x ∧ P.y = fq (b % HH) := by
  obtain ⟨h1, h2, h3⟩ := froot_some h
  have hon : E5.On (fq x) (fq (b % HH)) := (on_usq _ _).2 h3
  refine ⟨⟨fq x, fq (b % HH), hon⟩, ?_, rfl, rfl⟩
  show (fq (b % HH)).val + HH * ((fq x).val % 2) = b
  rw [fq_val, fq_val, Nat.mod_eq_of_lt h1, Nat.mod_eq_of_lt hy, h2, Nat.mul_zero, Nat.add_zero]
  have := Nat.div_add_mod b HH
  rw [ho, Nat.mul_zero, Nat.zero_add] at this
  exact this
theorem dec_side {b x : Nat} (hy : b % HH < pp) (h : froot (usq (b % HH)) = some x) (ho : b / HH = 1) (hx : x ≠ 0) : ∃ P : Pt E5, enc P = b ∧ P.x = fq (subp 0 x) ∧ P.y = fq (b % HH) := by
  obtain ⟨h1, h2, h3⟩ := froot_some h
  have hon : E5.On (fq x) (fq (b % HH)) := (on_usq _ _).2 h3
  have hne : fq x ≠ 0 := fun e => hx (by have := congrArg Fin.val e; rw [fq_val, Nat.mod_eq_of_lt h1] at this; exact this)
  have hon2 : E5.On (fq (subp 0 x)) (fq (b % HH)) := by
    rw [neg_sub']
    unfold Ed.On at hon ⊢
    grind
  refine ⟨⟨fq (subp 0 x), fq (b % HH), hon2⟩, ?_, rfl, rfl⟩
  show (fq (b % HH)).val + HH * ((fq (subp 0 x)).val % 2) = b
  have ho' : (fq (subp 0 x)).val % 2 = 1 := by
    have := odd_neg hne
    rw [← neg_sub', fq_val x, Nat.mod_eq_of_lt h1, h2] at this
    omega
  rw [ho', fq_val, Nat.mod_eq_of_lt hy, Nat.mul_one]
  have := Nat.div_add_mod b HH
  rw [ho, Nat.mul_one] at this
  omega
theorem enc_rep {P : Pt E5} {r : N4} (h : Rep4 P r) : r.Y * finv r.Z % pp + HH * (r.X * finv r.Z % pp % 2) = enc P := by
  obtain ⟨hx, hy, -, hz⟩ := h
  have hi := fq_inv hz
  have ex : fq (r.X * finv r.Z) = P.x := by rw [fq_mul, hx]; grind
  have ey : fq (r.Y * finv r.Z) = P.y := by rw [fq_mul, hy]; grind
  unfold enc
  rw [← ex, ← ey, fq_val, fq_val]
end Go.Proofs.YtgibllaifnnfkaaGreatDoor
namespace Go.Proofs.YtgibllaifnnfkaaGreatDoor
open Go.RowKit
theorem HH_parts : HH = 256 ^ 31 * 128 := by decide
theorem R256_HH : R256 = 2 * HH := by decide
theorem bdig_above_low (n c i : Nat) (hi : i < 31) : bdig (n + HH * c) i = bdig n i := by
  have h : HH * c = 256 ^ i * (256 * (256 ^ (30 - i) * 128 * c)) := by
    rw [HH_parts, show (256 : Nat) ^ 31 = 256 ^ i * (256 * 256 ^ (30 - i)) by rw [← Nat.pow_succ', ← Nat.pow_add]; congr 1; omega]
    simp only [Nat.mul_assoc]
  unfold bdig
  rw [h, Nat.add_mul_div_left _ _ (Nat.pow_pos (by decide)), Nat.add_mul_mod_self_left]
theorem bdig_top (n : Nat) (h : n < R256) : bdig n 31 = n / 256 ^ 31 := by
  unfold bdig
  rw [Nat.mod_eq_of_lt]
  have : R256 = 256 ^ 31 * 256 := by decide
  exact Nat.div_lt_of_lt_mul (this ▸ h)
theorem top_low {y : Nat} (hy : y < HH) : bdig y 31 < 128 := by
  rw [bdig_top y (by have := R256_HH; omega)]
  exact Nat.div_lt_of_lt_mul (HH_parts ▸ hy)
theorem top_add {y c : Nat} (hy : y < HH) (hc : c < 2) : bdig (y + HH * c) 31 = bdig y 31 + 128 * c := by
  have h1 := R256_HH
  have h2 : HH * c ≤ HH * 1 := Nat.mul_le_mul_left _ (by omega)
  rw [bdig_top _ (by omega), bdig_top y (by omega), HH_parts, Nat.mul_assoc, Nat.add_mul_div_left _ _ (Nat.pow_pos (by decide))]
theorem or_top {y : Nat} (hy : y < HH) : bits .or .u8 (bdig y 31 : Int) 128 = ((bdig y 31 + 128 : Nat) : Int) := by
  have h := top_low hy
  have e : bdig y 31 ||| 128 = bdig y 31 + 128 := by
    have := Nat.two_pow_add_eq_or_of_lt (i := 7) (b := bdig y 31) h 1
    rw [show (2 : Nat) ^ 7 * 1 = 128 from rfl] at this
    rw [Nat.or_comm, ← this, Nat.add_comm]
  have := u8_or_nat (bdig y 31) 128 (by omega) (by decide)
  rw [e] at this
  exact this
theorem and_top (a : Nat) : bits .and .u8 (bdig a 31 : Int) 127 = ((bdig a 31 % 128 : Nat) : Int) := by
  have := u8_and_nat (bdig a 31) 127 (bdig_lt _ _) (by decide)
  have e := Nat.and_two_pow_sub_one_eq_mod (bdig a 31) 7
  rw [show (127 : Nat) = 2 ^ 7 - 1 from rfl, e] at this
  exact this
theorem B32_top {y : Nat} (hy : y < HH) : B32 (upd (bdig y) 31 (bdig y 31 + 128)) = B32 (bdig (y + HH)) := B32_ext fun i hi => by
  by_cases e : i = 31
  · subst e
    rw [upd_same]
    have := top_add hy (c := 1) (by decide)
    rw [Nat.mul_one, Nat.mul_one] at this
    exact this.symm
  · rw [upd_other _ _ _ _ e]
    have := bdig_above_low y 1 i (by omega)
    rw [Nat.mul_one] at this
    exact this.symm
theorem half_lt {a : Nat} (ha : a < R256) : a / HH < 2 := Nat.div_lt_of_lt_mul (by have := R256_HH; omega)
theorem top_split {a : Nat} (ha : a < R256) : bdig a 31 = bdig (a % HH) 31 + 128 * (a / HH) := by
  have := top_add (y := a % HH) (c := a / HH) (Nat.mod_lt _ HH_pos) (half_lt ha)
  rw [Nat.mod_add_div] at this
  exact this
theorem B32_low {a : Nat} (ha : a < R256) : B32 (upd (bdig a) 31 (bdig a 31 % 128)) = B32 (bdig (a % HH)) := B32_ext fun i hi => by
  by_cases e : i = 31
  · subst e
    have h1 := top_split ha
    have h2 := top_low (Nat.mod_lt a HH_pos)
    rw [upd_same]
    omega
  · rw [upd_other _ _ _ _ e]
    have := bdig_above_low (a % HH) (a / HH) i (by omega)
    rw [Nat.mod_add_div] at this
    exact this
theorem top_odd {a : Nat} (ha : a < R256) : 128 ≤ bdig a 31 ↔ a / HH = 1 := by
  have h1 := top_split ha
  have h2 := top_low (Nat.mod_lt a HH_pos)
  have h3 := half_lt ha
  omega
theorem dig_odd (x : Nat) : dig x 0 % 2 = x % 2 := by
  unfold dig
  rw [Nat.pow_zero, Nat.div_one]
  omega
end Go.Proofs.YtgibllaifnnfkaaGreatDoor
namespace Go.Proofs.YtgibllaifnnfkaaGreatDoor
theorem base_L4 : nought4 (mul4 base4 253 LL) = true := by decide +kernel
theorem base_L : Pt.times LL BP = Pt.zero := (base_rep.mul 253 LL (by decide)).nought base_L4
end Go.Proofs.YtgibllaifnnfkaaGreatDoor
