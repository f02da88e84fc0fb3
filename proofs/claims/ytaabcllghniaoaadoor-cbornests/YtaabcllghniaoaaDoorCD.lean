/- CBOR: tokens, items, their bytes, and what bytes are told as. -/
import Derived.Test.YtaabcllghniaoaaDoorCO
namespace Go.Proofs.YtaabcllghniaoaaDoor
/-- What stands behind the first byte of a code point: how many bytes (9: none such), the least number, the first byte's own. -/
def usize (c : Int) : Nat := if c < 128 then 0 else if c < 192 then 9 else if c < 224 then 1 else if c < 240 then 2 else if c < 248 then 3 else 9
def ulow (s : Nat) : Int := if s = 1 then 128 else if s = 2 then 2048 else 65536
def ufirst (c : Int) (s : Nat) : Int := if s = 1 then c % 32 else if s = 2 then c % 16 else c % 8
def ucont (l : List Int) : Bool := l.all fun x => decide (128 ≤ x ∧ x < 192)
def uval (s : Int) (l : List Int) : Int := l.foldl (fun s x => s * 64 + x % 64) s
def uright (v lo : Int) : Bool := decide (lo ≤ v ∧ v ≤ 1114111 ∧ ¬ (55296 ≤ v ∧ v ≤ 57343))
def utf8 : List Int → Bool
  | [] => true
  | c :: r =>
    if usize c = 0 then utf8 r
    else if usize c = 9 ∨ r.length < usize c then false
    else ucont (r.take (usize c)) && uright (uval (ufirst c (usize c)) (r.take (usize c))) (ulow (usize c)) && utf8 (r.drop (usize c))
termination_by l => l.length
decreasing_by
  all_goals simp
  all_goals omega
theorem utf8_nil : utf8 [] = true := by rw [utf8]
theorem utf8_cons (c : Int) (r : List Int) : utf8 (c :: r) = if usize c = 0 then utf8 r
    else if usize c = 9 ∨ r.length < usize c then false
    else ucont (r.take (usize c)) && uright (uval (ufirst c (usize c)) (r.take (usize c))) (ulow (usize c)) && utf8 (r.drop (usize c)) := by rw [utf8]
/-- A token. -/
structure Tk where
  k : Int
  n : Int
  b : List Int
deriving DecidableEq
/-- A token that may be by its shape. -/
def Tk.good (t : Tk) : Bool := decide (¬ ((t.k = 3 ∨ t.k = 4) ∧ t.n ≠ 0) ∧ ¬ (¬ (t.k = 3 ∨ t.k = 4) ∧ 0 < t.b.length) ∧ 0 ≤ t.n ∧ t.n < 9223372036854775808 ∧ t.b.length < 9223372036854775808)
/-- So many, one behind the other. -/
def runs {α β : Type} (f : List α → Option (β × List α)) : Nat → List α → Option (List β × List α)
  | 0, l => some ([], l)
  | k + 1, l => match f l with
    | none => none
    | some (x, r) => match runs f k r with
      | none => none
      | some (xs, r') => some (x :: xs, r')
/-- A map's keys rise. -/
def keysUp : List (List Int) → Bool
  | a :: _ :: b :: r => ahead a b && keysUp (b :: r)
  | _ => true
def howMany (k : Int) (n : Nat) : Nat := if k = 5 then n else 2 * n
/-- An array's, a map's bytes, and the tokens behind it; f: what is within. -/
def itemL (f : Option (List Tk → Option (List Int × List Tk))) (t : Tk) (r : List Tk) : Option (List Int × List Tk) :=
  match f with
  | none => none
  | some f => match runs f (howMany t.k t.n.toNat) r with
    | none => none
    | some (xs, r') => if t.k = 6 ∧ keysUp xs = false then none else some (hd (if t.k = 5 then 4 else 5) t.n.toNat ++ xs.flatten, r')
/-- An item's bytes, and the tokens behind it; f: what is within. -/
def itemF (f : Option (List Tk → Option (List Int × List Tk))) : List Tk → Option (List Int × List Tk)
  | [] => none
  | t :: r =>
    if t.good = false then none
    else if t.k = 1 then some (hd 0 t.n.toNat, r)
    else if t.k = 2 then some (hd 1 t.n.toNat, r)
    else if t.k = 3 then some (hd 2 t.b.length ++ t.b, r)
    else if t.k = 4 then (if utf8 t.b then some (hd 3 t.b.length ++ t.b, r) else none)
    else if t.k = 5 ∨ t.k = 6 then
      (if 64 < t.n then none else itemL f t r)
    else none
theorem itemF_cons (f : Option (List Tk → Option (List Int × List Tk))) (t : Tk) (r : List Tk) : itemF f (t :: r) =
    if t.good = false then none
    else if t.k = 1 then some (hd 0 t.n.toNat, r)
    else if t.k = 2 then some (hd 1 t.n.toNat, r)
    else if t.k = 3 then some (hd 2 t.b.length ++ t.b, r)
    else if t.k = 4 then (if utf8 t.b then some (hd 3 t.b.length ++ t.b, r) else none)
    else if t.k = 5 ∨ t.k = 6 then (if 64 < t.n then none else itemL f t r)
    else none := rfl
def item : Nat → List Tk → Option (List Int × List Tk)
  | 0 => itemF none
  | d + 1 => itemF (some (item d))
/-- A right row's bytes. -/
def enc (l : List Tk) : Option (List Int) :=
  if 600 < l.length then none else
  match item 6 l with
  | some (x, []) => if 32768 < x.length then none else some x
  | _ => none
/-- An array's, a map's tokens: of a kind, so many. -/
def toksL (f : Option (List Int → Option (List Tk × List Int))) (mj n : Nat) (b : List Int) : Option (List Tk × List Int) :=
  match f with
  | none => none
  | some f => match runs f (n * (mj - 3)) b with
    | none => none
    | some (ls, r') => some (⟨(mj : Int) + 1, n, []⟩ :: ls.flatten, r')
/-- The tokens of the item at some bytes' beginning, and what stands behind it. -/
def toksF (f : Option (List Int → Option (List Tk × List Int))) (b : List Int) : Option (List Tk × List Int) :=
  match hget b with
  | none => none
  | some (mj, n, k) =>
    if mj = 0 then some ([⟨1, n, []⟩], b.drop k)
    else if mj = 1 then some ([⟨2, n, []⟩], b.drop k)
    else if mj = 2 ∨ mj = 3 then (if (b.drop k).length < n then none else some ([⟨(mj : Int) + 1, 0, (b.drop k).take n⟩], (b.drop k).drop n))
    else if mj = 4 ∨ mj = 5 then
      (if 64 < n then none else toksL f mj n (b.drop k))
    else none
def toks : Nat → List Int → Option (List Tk × List Int)
  | 0 => toksF none
  | d + 1 => toksF (some (toks d))
/-- What bytes are told as. -/
def dec (b : List Int) : Option (List Tk) :=
  match toks 6 b with
  | some (l, []) => if enc l = some b then some l else none
  | _ => none
end Go.Proofs.YtaabcllghniaoaaDoor
