/- What a signature is, in numbers: what the program and the page answer. -/
import Derived.Test.YtgibllaifnnfkaaDoorSP1
import Derived.Test.YtgibllaifnnfkaaDoorSS1
import Derived.Test.YtgibllaifnnfkaaDoorSV1
namespace Go.Proofs.YtgibllaifnnfkaaDoor
open Go Go.RowKit
theorem enc_R7 (P : Pt E5) : enc P < R256 := by rw [R256_HH]; exact enc_lt P
/-- A seed's number, its prefix, its public key. -/
def numOf (n : Nat) : Nat := clamp (dn (by32 n) % R256)
def preOf (n : Nat) : Nat := dn (by32 n) / R256
def pubOf (n : Nat) : Nat := enc (Pt.times (numOf n) BP)
/-- The number that binds a signature. -/
def bindOf (R p : Nat) (m : List Int) : Nat := dn (by32 R ++ (by32 p ++ m)) % LL
/-- The parts of a signature. -/
def onceOf (n : Nat) (m : List Int) : Nat := dn (by32 (preOf n) ++ m) % LL
def rOf (n : Nat) (m : List Int) : Nat := enc (Pt.times (onceOf n m) BP)
def sOf (n : Nat) (m : List Int) : Nat := (bindOf (rOf n m) (pubOf n) m * numOf n + onceOf n m) % LL
def sigOf (n : Nat) (m : List Int) : Nat := two (rOf n m) (sOf n m)
theorem numOf_lt (n : Nat) : numOf n < R256 := clamp_lt _
theorem pubOf_lt (n : Nat) : pubOf n < R256 := enc_R7 _
theorem rOf_lt (n : Nat) (m : List Int) : rOf n m < R256 := enc_R7 _
theorem sOf_lt (n : Nat) (m : List Int) : sOf n m < LL := Nat.mod_lt _ LL_pos
theorem sOf_lt2 (n : Nat) (m : List Int) : sOf n m < R256 := Nat.lt_trans (sOf_lt n m) LL_lt
theorem sigOf_lt (n : Nat) (m : List Int) : sigOf n m < R512 := two_lt (rOf_lt n m) (sOf_lt2 n m)
/-- Is it a signature? -/
def Signed (p : Nat) (m : List Int) (R S : Nat) : Prop := S < LL ∧ ∃ P Q : Pt E5, enc P = p ∧ enc Q = R ∧ enc (Q.add (Pt.times (bindOf R p m) P)) = enc (Pt.times S BP)
noncomputable def signedB (p : Nat) (m : List Int) (R S : Nat) : Bool := @decide (Signed p m R S) (Classical.propDecidable _)
theorem signedB_true {p : Nat} {m : List Int} {R S : Nat} : signedB p m R S = true ↔ Signed p m R S := by unfold signedB; exact @decide_eq_true_iff _ (Classical.propDecidable _)
theorem signedB_false {p : Nat} {m : List Int} {R S : Nat} (h : ¬ Signed p m R S) : signedB p m R S = false := by unfold signedB; exact @decide_eq_false _ (Classical.propDecidable _) h
theorem signedB_pts {P Q : Pt E5} {p : Nat} {m : List Int} {R S : Nat} (hS : S < LL) (hP : enc P = p) (hQ : enc Q = R) : signedB p m R S = decide (enc (Q.add (Pt.times (bindOf R p m) P)) = enc (Pt.times S BP)) := by
  by_cases h : enc (Q.add (Pt.times (bindOf R p m) P)) = enc (Pt.times S BP)
  · rw [decide_eq_true h]; exact signedB_true.2 ⟨hS, P, Q, hP, hQ, h⟩
  · rw [decide_eq_false h]
    refine signedB_false fun ⟨_, P', Q', hP', hQ', h'⟩ => h ?_
    rw [enc_inj (hP.trans hP'.symm), enc_inj (hQ.trans hQ'.symm)]; exact h'
theorem signedB_low {p : Nat} {m : List Int} {R S : Nat} (h : decide (S < LL) = false) : signedB p m R S = false := signedB_false fun hs => by
  rw [decide_eq_true hs.1] at h; cases h
theorem signedB_nop {p : Nat} {m : List Int} {R S : Nat} (h : ∀ P : Pt E5, enc P ≠ p) : signedB p m R S = false := signedB_false fun ⟨_, P, _, hP, _⟩ => h P hP
theorem signedB_nor {p : Nat} {m : List Int} {R S : Nat} (h : ∀ Q : Pt E5, enc Q ≠ R) : signedB p m R S = false := signedB_false fun ⟨_, _, Q, _, hQ, _⟩ => h Q hQ
/-- What is signed is the equation. -/
theorem sign_eqn (n : Nat) (m : List Int) : (Pt.times (onceOf n m) BP).add (Pt.times (bindOf (rOf n m) (pubOf n) m) (Pt.times (numOf n) BP)) = Pt.times (sOf n m) BP := by
  unfold sOf
  generalize bindOf (rOf n m) (pubOf n) m = k
  generalize numOf n = c
  generalize onceOf n m = r
  rw [Pt.times_mod base_L, Pt.times_add, Nat.mul_comm, Pt.times_mul, Pt.add_comm]
theorem sign_signed (n : Nat) (m : List Int) : signedB (pubOf n) m (rOf n m) (sOf n m) = true :=
  signedB_true.2 ⟨sOf_lt n m, Pt.times (numOf n) BP, Pt.times (onceOf n m) BP, rfl, rfl, by rw [sign_eqn]⟩
section
variable {T : World → Prop} (F : Low T)
include F
theorem public_is (n : Nat) (w : World) (hT : T w) : Calls Tryd.prog 7 #[.agg (B32 (bdig n))] w fun x w' => x = .returned (.agg (B32 (bdig (pubOf n)))) ∧ Below w.heap.size w w' :=
  public_at F (lo := dn (by32 n) % R256) (hi := preOf n) (c := numOf n) (two_parts _).symm (lo_lt _) rfl rfl w hT
theorem sign_is (n : Nat) {ta : Option Addr} {tc : Nat} {m : List Int} (hl : m.length ≤ 1000) (w : World) (hT : T w) (hm : Txt w ta tc m) : Calls Tryd.prog 8 #[.agg (B32 (bdig n)), .slice ta m.length tc] w fun x w' => x = .returned (.agg (B64 (bdig (sigOf n m)))) ∧ Below w.heap.size w w' :=
  sign_at F (lo := dn (by32 n) % R256) (hi := preOf n) (c := numOf n) (y := pubOf n) (r := onceOf n m) (R := rOf n m) (k := bindOf (rOf n m) (pubOf n) m) (S := sOf n m) (two_parts _).symm (lo_lt _) rfl rfl rfl rfl rfl rfl hl w hT hm
theorem verify_is {p R S : Nat} {ta : Option Addr} {tc : Nat} {m : List Int} (lp : p < R256) (lR : R < R256) (lS : S < R256) (hl : m.length ≤ 1000) (w : World) (hT : T w) (hm : Txt w ta tc m) : Calls Tryd.prog 10 #[.agg (B32 (bdig p)), .slice ta m.length tc, .agg (B64 (bdig (two R S)))] w fun x w' => x = .returned (.bool (signedB p m R S)) ∧ Below w.heap.size w w' := by
  have lk : bindOf R p m < R256 := lt_of_modL
  have z0 : B32 (fun _ => 0) = B32 (bdig 0) := B32_ext fun i _ => (bdig_zero i).symm
  have lt := enc_R7 (Pt.times S BP)
  by_cases hp : ∃ P : Pt E5, enc P = p
  · obtain ⟨P, rfl⟩ := hp
    by_cases hR : ∃ Q : Pt E5, enc Q = R
    · obtain ⟨Q, rfl⟩ := hR
      refine verify_gen F lR lS rfl rfl (fun w hT => F.mul _ lk P w hT) (fun _ w hT => F.add Q _ w hT) rfl (fun w => B32_eq _ _ (enc_R7 _) lt w) (fun h => signedB_low h) (.inr ⟨rfl, .inr ⟨rfl, fun h => ?_⟩⟩) hl w hT hm
      exact (signedB_pts (of_decide_eq_true h) rfl rfl).symm
    · refine verify_gen F lR lS rfl rfl (fun w hT => F.mul _ lk P w hT) (fun _ w hT => F.add_not R _ lR (enc_R7 _) (.inl fun Q e => hR ⟨Q, e⟩) w hT) rfl (fun w => by rw [z0]; exact B32_eq _ _ (by decide) lt w) (fun h => signedB_low h) (.inr ⟨rfl, .inl ⟨rfl, signedB_nor fun Q e => hR ⟨Q, e⟩⟩⟩) hl w hT hm
  · have hn : ∀ P : Pt E5, enc P ≠ p := fun P e => hp ⟨P, e⟩
    exact verify_gen F (f := fun _ => 0) (g := bdig 0) (e1 := 1) (e2 := 0) lR lS rfl rfl (fun w hT => F.mul_not _ p lk lp hn w hT) (fun h => by cases h) rfl (fun w => B32_eq _ _ (by decide) lt w) (fun h => signedB_low h) (.inl ⟨rfl, signedB_nop hn⟩) hl w hT hm
end
end Go.Proofs.YtgibllaifnnfkaaDoor
