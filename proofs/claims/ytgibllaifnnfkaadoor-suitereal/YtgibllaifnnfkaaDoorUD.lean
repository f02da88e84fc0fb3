/- The kinds of signatures in numbers. -/
import Derived.Test.YtgibllaifnnfkaaDoorUH
import Derived.Test.YtgibllaifnnfkaaDoorSM1
namespace Go.Proofs.YtgibllaifnnfkaaDoor
open Go Go.RowKit
/-- The open kind's public key of a seed; the two halves of a signature. -/
def opub (n : Nat) : Nat := hn (1 :: by32 n)
def oR (p : Nat) (m : List Int) : Nat := hn (2 :: (by32 p ++ m))
def oS (p : Nat) (m : List Int) : Nat := hn (3 :: (by32 p ++ m))
/-- A kind's public key of a seed, the halves of its signature, whether a signature is verified. -/
noncomputable def pubK (kind : Int) (n : Nat) : Nat := if kind = 1 then pubOf n else opub n
noncomputable def sgR (kind : Int) (n : Nat) (m : List Int) : Nat := if kind = 1 then rOf n m else oR (opub n) m
noncomputable def sgS (kind : Int) (n : Nat) (m : List Int) : Nat := if kind = 1 then sOf n m else oS (opub n) m
noncomputable def verK (kind : Int) (p : Nat) (m : List Int) (R S : Nat) : Bool := if kind = 1 then signedB p m R S else if kind = 2 then decide (two R S = two (oR p m) (oS p m)) else false
theorem opub_lt (n : Nat) : opub n < R256 := hn_lt _
theorem oR_lt (p : Nat) (m : List Int) : oR p m < R256 := hn_lt _
theorem oS_lt (p : Nat) (m : List Int) : oS p m < R256 := hn_lt _
theorem pubK_lt {kind : Int} (h : kind = 1 ∨ kind = 2) (n : Nat) : pubK kind n < R256 := by
  rcases h with rfl | rfl
  · rw [show pubK 1 n = pubOf n from if_pos rfl]
    exact pubOf_lt n
  · rw [show pubK 2 n = opub n from if_neg (by decide)]
    exact opub_lt n
theorem sgR_lt {kind : Int} (h : kind = 1 ∨ kind = 2) (n : Nat) (m : List Int) : sgR kind n m < R256 := by
  rcases h with rfl | rfl
  · rw [show sgR 1 n m = rOf n m from if_pos rfl]
    exact rOf_lt n m
  · rw [show sgR 2 n m = oR (opub n) m from if_neg (by decide)]
    exact oR_lt _ _
theorem sgS_lt {kind : Int} (h : kind = 1 ∨ kind = 2) (n : Nat) (m : List Int) : sgS kind n m < R256 := by
  rcases h with rfl | rfl
  · rw [show sgS 1 n m = sOf n m from if_pos rfl]
    exact sOf_lt2 n m
  · rw [show sgS 2 n m = oS (opub n) m from if_neg (by decide)]
    exact oS_lt _ _
/-- What is signed is verified. -/
theorem verK_own {kind : Int} (h : kind = 1 ∨ kind = 2) (n : Nat) (m : List Int) : verK kind (pubK kind n) m (sgR kind n m) (sgS kind n m) = true := by
  rcases h with rfl | rfl
  · rw [show pubK 1 n = pubOf n from if_pos rfl, show sgR 1 n m = rOf n m from if_pos rfl, show sgS 1 n m = sOf n m from if_pos rfl, show verK 1 (pubOf n) m (rOf n m) (sOf n m) = signedB (pubOf n) m (rOf n m) (sOf n m) from if_pos rfl]
    exact sign_signed n m
  · rw [show pubK 2 n = opub n from if_neg (by decide), show sgR 2 n m = oR (opub n) m from if_neg (by decide), show sgS 2 n m = oS (opub n) m from if_neg (by decide)]
    unfold verK
    rw [if_neg (by decide), if_pos rfl]
    exact decide_eq_true rfl
theorem infoE5 : (Tryd.prog.info? 5).map (fun i => (i.size, i.zero.isSome)) = some (1, true) := by kernel_rfl
theorem infoE23 : (Tryd.prog.info? 23).map (fun i => (i.size, i.zero.isSome)) = some (1, true) := by kernel_rfl
end Go.Proofs.YtgibllaifnnfkaaDoor
