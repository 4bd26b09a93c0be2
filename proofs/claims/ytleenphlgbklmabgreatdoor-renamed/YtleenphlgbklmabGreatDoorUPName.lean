import Derived.Test.YtleenphlgbklmabGreatDoorUPRead
import Derived.Test.YtleenphlgbklmabGreatDoorUWCanon
import Derived.Laws.DeepStrings4
set_option linter.unusedVariables false
set_option linter.unusedSimpArgs false
namespace Go.Proofs.YtleenphlgbklmabGreatDoor
open Go.RowKit

set_option maxRecDepth 20000 in
set_option maxHeartbeats 1000000 in
theorem pitoa_small (n : Nat) (hn : n < 10) (w : World) : Calls Tryz.prog 86 #[.int .i64 n] w fun e w' => e = .returned (.string (bytesN [48 + n])) ∧ w' = w := by
  have h : n = 0 ∨ n = 1 ∨ n = 2 ∨ n = 3 ∨ n = 4 ∨ n = 5 ∨ n = 6 ∨ n = 7 ∨ n = 8 ∨ n = 9 := by omega
  rcases h with rfl | rfl | rfl | rfl | rfl | rfl | rfl | rfl | rfl | rfl
  all_goals
    go_enter Tryz.func86, Tryz.ntmps86
    go_wp2
    go_ret
    exact ⟨congrArg (fun x => Ending.returned (.string x)) (ByteArray.ext (by decide)), rfl⟩

def lettersB : ByteArray := { data := #[97, 98, 99, 100, 101, 102, 103, 104, 105, 106, 107, 108, 109, 110, 111, 112, 113, 114, 115, 116, 117, 118, 119, 120, 121, 122] }
theorem letters_fin : ∀ k : Fin 26, (lettersB.extract k.val (k.val + 1)).data = (bytesN [97 + k.val]).data := by decide
theorem letters_ext (k : Nat) (h : k < 26) : lettersB.extract k (k + 1) = bytesN [97 + k] := ByteArray.ext (letters_fin ⟨k, h⟩)
set_option maxRecDepth 20000 in
set_option maxHeartbeats 1000000 in
theorem pnbn_small (n : Nat) (hn : n < 260) (w : World) : Calls Tryz.prog 58 #[.int .i64 n] w fun e w' => e = .returned (.string (letM n)) ∧ w' = w := by
  have hk := letters_ext (n % 26) (Nat.mod_lt _ (by decide))
  have HE : Hid (letM n = if n < 26 then bytesN [97 + n % 26] else bytesN [97 + n % 26] ++ bytesN [48 + n / 26]) := by
    show _ = _
    unfold letM
    split
    · rename_i h; rw [Nat.mod_eq_of_lt h]
    · rfl
  have HI : Hid (∀ w, Calls Tryz.prog 86 #[.int .i64 ((n / 26 : Nat) : Int)] w fun e w' => e = .returned (.string (bytesN [48 + n / 26])) ∧ w' = w) := fun w => pitoa_small (n / 26) (by omega) w
  have hm : (n : Int) % 26 = ((n % 26 : Nat) : Int) := by omega
  have hmlt : n % 26 < 26 := Nat.mod_lt _ (by decide)
  have hsl : (Instr.slice 9 (.string { data := #[97, 98, 99, 100, 101, 102, 103, 104, 105, 106, 107, 108, 109, 110, 111, 112, 113, 114, 115, 116, 117, 118, 119, 120, 121, 122] }) (some (.int .i64 ((n : Int) % 26))) (some (.int .i64 ((n : Int) % 26 + 1))) none).run Tryz.prog w = .ok (.string (bytesN [97 + n % 26])) w := by
    rw [run_slice_string_if w 9 _ .i64 .i64 _ _ Tryz.underlying9, ← hk]
    rw [hm]
    have hz : (({ data := #[97, 98, 99, 100, 101, 102, 103, 104, 105, 106, 107, 108, 109, 110, 111, 112, 113, 114, 115, 116, 117, 118, 119, 120, 121, 122] } : ByteArray).size : Int) = 26 := rfl
    rw [if_pos (by rw [hz]; omega), if_pos (by omega)]
    have e1 : (((n % 26 : Nat) : Int)).toNat = n % 26 := by omega
    have e2 : (((n % 26 : Nat) : Int) + 1).toNat = n % 26 + 1 := by omega
    rw [e1, e2]
    rfl
  have hdv : (n : Int) / 26 = ((n / 26 : Nat) : Int) := by omega
  have HI2 : Hid (∀ w, Calls Tryz.prog 86 #[.int .i64 ((n : Int) / 26)] w fun e w' => e = .returned (.string (bytesN [48 + n / 26])) ∧ w' = w) := fun w => by rw [hdv]; exact HI.out w
  have hsz : (bytesN [97 + n % 26]).size = 1 := rfl
  have hsz2 : (bytesN [48 + n / 26]).size = 1 := rfl
  clear hm hk HI hdv
  by_cases h26 : n < 26
  · have E : Hid (letM n = bytesN [97 + n % 26]) := by show _ = _; rw [HE.out, if_pos h26]
    have h0 : ¬ (0 : Int) < (n : Int) / 26 := by omega
    have hd0 : decide ((0 : Int) < (n : Int) / 26) = false := by simp; omega
    clear HE
    generalize bytesN [97 + n % 26] = r at *
    go_enter Tryz.func58, Tryz.ntmps58
    go_wp2
    go_ret
    exact ⟨by rw [E.out]; rfl, rfl⟩
  · have E : Hid (letM n = bytesN [97 + n % 26] ++ bytesN [48 + n / 26]) := by show _ = _; rw [HE.out, if_neg h26]
    have h0 : (0 : Int) < (n : Int) / 26 := by omega
    have hd0 : decide ((0 : Int) < (n : Int) / 26) = true := by simp; omega
    clear HE
    generalize bytesN [97 + n % 26] = r at *
    generalize bytesN [48 + n / 26] = r2 at *
    go_enter Tryz.func58, Tryz.ntmps58
    go_wp2_with (go_at_call 86; refine Calls.mono (HI2.out _) ?_; rintro e w' ⟨rfl, hww⟩; rw [hww]; clear hww w')
    go_ret
    exact ⟨by rw [E.out]; rfl, rfl⟩
end Go.Proofs.YtleenphlgbklmabGreatDoor
