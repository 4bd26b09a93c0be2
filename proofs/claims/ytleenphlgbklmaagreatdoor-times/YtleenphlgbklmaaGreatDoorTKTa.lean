import Derived.Test.YtleenphlgbklmaaGreatDoorTPKe
set_option linter.unusedVariables false
set_option linter.unusedSimpArgs false
namespace Go.Proofs.YtleenphlgbklmaaGreatDoor
open Go.RowKit

def pickI (c n : Int) : Int := (if c < 0 then -(c + 1) else c) % n
theorem pickI_lt (c n : Int) (hn : 0 < n) : 0 ≤ pickI c n ∧ pickI c n < n := ⟨Int.emod_nonneg _ (by omega), Int.emod_lt_of_pos _ hn⟩
set_option maxRecDepth 20000 in
theorem pick_sx (c n : Int) (w : World) (h1 : -9223372036854775808 ≤ c) (h2 : c ≤ 9223372036854775807) (hn : 0 < n) (hn2 : n ≤ 1000000) : Calls Tryz.prog 32 #[.int .i64 c, .int .i64 n] w fun e w' => e = .returned (.int .i64 (pickI c n)) ∧ w' = w := by
  unfold pickI
  by_cases hc : c < 0
  · rw [if_pos hc]
    have e : Int.tmod (-(c + 1)) n = (-(c + 1)) % n := Int.tmod_eq_emod_of_nonneg (by omega)
    go_enter Tryz.func32, Tryz.ntmps32
    go_wp2
    go_ret
    exact ⟨by rw [← e]; rfl, rfl⟩
  · rw [if_neg hc]
    have e : Int.tmod c n = c % n := Int.tmod_eq_emod_of_nonneg (by omega)
    go_enter Tryz.func32, Tryz.ntmps32
    go_wp2
    go_ret
    exact ⟨by rw [← e]; rfl, rfl⟩
/-- the text of f, so many times. -/
def tmS : Nat → ByteArray
  | 0 => { data := #[120] }
  | k + 1 => { data := #[102, 32, 40] } ++ tmS k ++ { data := #[41] }
def tmT : Nat → ByteArray
  | 0 => { data := #[97, 32, 45, 62, 32, 98, 32, 45, 62, 32, 98] }
  | 1 => { data := #[40, 97, 32, 45, 62, 32, 98, 41, 32, 45, 62, 32, 97, 32, 45, 62, 32, 98] }
  | _ + 2 => { data := #[40, 97, 32, 45, 62, 32, 97, 41, 32, 45, 62, 32, 97, 32, 45, 62, 32, 97] }
def tmAll (k : Nat) : Bool := match inferF false 6 ({ data := #[102, 117, 110, 32, 102, 32, 45, 62, 32, 102, 117, 110, 32, 120, 32, 45, 62, 32] } ++ tmS k) envS with
  | some (.txt t) => bq t (tmT k)
  | _ => false
theorem tm_all : (List.range 20).all tmAll = true := by kernel_rfl
theorem tm_at {k : Nat} (h : k < 20) : inferF false 6 ({ data := #[102, 117, 110, 32, 102, 32, 45, 62, 32, 102, 117, 110, 32, 120, 32, 45, 62, 32] } ++ tmS k) envS = some (.txt (tmT k)) := by
  have := List.all_eq_true.1 tm_all k (by simpa using h)
  unfold tmAll at this
  split at this
  · rename_i t ht
    rw [ht, bq_iff.1 this]
  · cases this
theorem tmS_size : ∀ k, (tmS k).size = 1 + 4 * k
  | 0 => rfl
  | k + 1 => by
    rw [tmS, ByteArray.size_append, ByteArray.size_append, tmS_size k]
    show 3 + (1 + 4 * k) + 1 = _
    omega
end Go.Proofs.YtleenphlgbklmaaGreatDoor
