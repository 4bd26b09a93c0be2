import Derived.Test.YtleenphlgbklmabGreatDoorXPPh
import Derived.Test.YtleenphlgbklmabGreatDoorXKNa
set_option linter.unusedVariables false
set_option linter.unusedSimpArgs false
namespace Go.Proofs.YtleenphlgbklmabGreatDoor
open Go.RowKit

/-- an x, and so many blanks. -/
def fl1 (k : Nat) : ByteArray := ⟨(120 :: List.replicate k 32).toArray⟩
def flong : ByteArray := fl1 299
def fdeep : Nat → ByteArray
  | 0 => { data := #[120] }
  | k + 1 => { data := #[102, 40] } ++ fdeep k ++ { data := #[41] }
theorem fl1_size (k : Nat) : (fl1 k).size = k + 1 := by
  show (120 :: List.replicate k 32).toArray.size = _
  simp
theorem fl1_snoc (k : Nat) : fl1 (k + 1) = fl1 k ++ { data := #[32] } := by
  apply ByteArray.ext
  rw [ByteArray.data_append]
  show (120 :: List.replicate (k + 1) 32).toArray = (120 :: List.replicate k 32).toArray ++ #[32]
  rw [List.replicate_succ']
  simp
theorem fdeep_size : ∀ k, (fdeep k).size = 1 + 3 * k
  | 0 => rfl
  | k + 1 => by
    rw [fdeep, ByteArray.size_append, ByteArray.size_append, fdeep_size k]
    show 2 + (1 + 3 * k) + 1 = _
    omega
def strN : Value → Nat
  | .string b => b.size
  | _ => 0
abbrev Flt := ByteArray × Int × Int
def fltLL (L D : ByteArray) : List Flt := [(L, -1, -1), (D, -1, 1), ({ data := #[102, 40] } ++ D ++ { data := #[41] }, -2, 1), ({ data := #[] }, 0, 0), ({ data := #[120, 32, 121] }, -1, 2), ({ data := #[49] }, -1, 0), ({ data := #[120, 49] }, -1, -1), ({ data := #[88] }, 0, 0), ({ data := #[97, 98, 99, 100, 101, 102, 103, 104] }, -1, -1), ({ data := #[97, 98, 99, 100, 101, 102, 103, 104, 105] }, 0, 0), ({ data := #[49, 50, 51, 52, 53, 54, 55, 56] }, -1, 0), ({ data := #[49, 50, 51, 52, 53, 54, 55, 56, 57] }, 0, 0), ({ data := #[40, 120, 41] }, -1, -1), ({ data := #[40, 41] }, 1, 1), ({ data := #[40, 120, 44, 32, 121, 41] }, -1, -1), ({ data := #[40, 120, 44, 32, 121, 44, 32, 122, 41] }, 5, 5), ({ data := #[40, 120] }, 2, 2), ({ data := #[120, 41] }, 1, 1), ({ data := #[120, 44] }, 1, 1), ({ data := #[105, 110, 116] }, -1, -1), ({ data := #[91, 105, 110, 116, 93] }, 0, -1), ({ data := #[91, 93] }, 0, 1), ({ data := #[91, 97] }, 0, 2), ({ data := #[97, 32, 45, 62, 32, 98] }, 2, -1), ({ data := #[97, 32, 45, 32, 98] }, 2, 2), ({ data := #[97, 32, 45, 62] }, 2, 4), ({ data := #[45, 62, 32, 97] }, 0, 0), ({ data := #[40, 97, 32, 45, 62, 32, 98, 41, 32, 45, 62, 32, 91, 99, 93] }, 3, -1), ({ data := #[97, 32, 45, 62, 32, 40, 98, 44, 32, 91, 98, 111, 111, 108, 93, 41, 32, 45, 62, 32, 99] }, 2, -1), ({ data := #[102, 117, 110] }, 3, -1), ({ data := #[102, 117, 110, 32, 120] }, 5, 4), ({ data := #[102, 117, 110, 32, 120, 32, 45, 62, 32] }, 9, 4), ({ data := #[102, 117, 110, 32, 49, 32, 45, 62, 32, 120] }, 4, 4), ({ data := #[102, 117, 110, 32, 108, 101, 116, 32, 45, 62, 32, 120] }, 4, 4), ({ data := #[102, 117, 110, 32, 120, 32, 45, 62, 32, 120] }, -1, 4), ({ data := #[108, 101, 116] }, 3, -1), ({ data := #[108, 101, 116, 32, 120] }, 5, 4), ({ data := #[108, 101, 116, 32, 120, 32, 61, 32, 49] }, 9, 4), ({ data := #[108, 101, 116, 32, 120, 32, 61, 32, 49, 32, 105, 110] }, 12, 4), ({ data := #[108, 101, 116, 32, 120, 32, 61, 32, 49, 32, 105, 110, 32, 120] }, -1, 4), ({ data := #[108, 101, 116, 32, 114, 101, 99] }, 7, 4), ({ data := #[108, 101, 116, 32, 114, 101, 99, 32, 102, 32, 61, 32, 49, 32, 97, 110, 100, 32, 102, 32, 61, 32, 50, 32, 105, 110, 32, 49] }, 18, 4), ({ data := #[108, 101, 116, 32, 114, 101, 99, 32, 102, 32, 61, 32, 49, 32, 97, 110, 100, 32, 103, 32, 61, 32, 50, 32, 105, 110, 32, 49] }, -1, 4), ({ data := #[108, 101, 116, 32, 102, 32, 61, 32, 49, 32, 97, 110, 100, 32, 103, 32, 61, 32, 50, 32, 105, 110, 32, 49] }, 10, 4), ({ data := #[114, 101, 99] }, 0, -1), ({ data := #[105, 102, 32, 120, 32, 116, 104, 101, 110, 32, 121] }, 11, 3), ({ data := #[105, 102, 32, 120, 32, 116, 104, 101, 110, 32, 121, 32, 101, 108, 115, 101] }, 16, 3), ({ data := #[105, 102, 32, 120, 32, 116, 104, 101, 110, 32, 121, 32, 101, 108, 115, 101, 32, 122] }, -1, 3), ({ data := #[102, 32, 102, 117, 110, 32, 120, 32, 45, 62, 32, 120] }, 2, 2), ({ data := #[102, 32, 105, 102] }, 2, 2), ({ data := #[120, 32, 61, 32, 121] }, 2, 2), ({ data := #[120, 9, 121] }, 1, 1), ({ data := #[120, 10, 32, 121] }, -1, 3), ({ data := #[120, 32, 91, 121, 93] }, 2, 2), ({ data := #[102, 32, 49, 120] }, -1, 2)]
def fltL : List Flt := fltLL flong (fdeep 39)
def fltV (l : Flt) : List Value := [.string l.1, .int .i64 l.2.1, .int .i64 l.2.2]
def fltCC (L D : ByteArray) : Array Value := ((fltLL L D).flatMap fltV).toArray
def fltC : Array Value := fltCC flong (fdeep 39)
theorem oper_run {P : Program} {o : Oper} {a : Act} {w w' : World} {next : Act → World → Prop} {Q : Exit → Act → World → Prop} {v : Value} (h : (execOp a.eval o).run P w = .ok (.value v) w') (k : next (a.put o.dst v) w') : Oper.wp P o a w next Q := by
  unfold Oper.wp
  rw [h]
  exact k
set_option maxRecDepth 20000 in
set_option maxHeartbeats 4000000 in
theorem faults_sx (w : World) : Calls Tryz.prog 18 #[] w fun e w' => e = .returned (.slice (some ⟨w.heap.size, 0, none⟩) 55 55) ∧ w' = w.alloc (.cells fltC 51) := by
  go_enter Tryz.func18, Tryz.ntmps18
  go_wp2_with fail
  go_loopw [1] (fun s wr => ∃ k : Nat, k ≤ 299 ∧ s = .string (fl1 k) ∧ wr = w) (fun s _ => 300 - strN s)
  case atStart => exact ⟨0, by omega, rfl, rfl⟩
  case round =>
    obtain ⟨k, hk, rfl, hw⟩ := hrel
    rw [hw]
    clear hw
    have hz := fl1_size k
    by_cases hlt : k < 299
    · have HE : Hid _ := fl1_snoc k
      have hz2 := fl1_size (k + 1)
      go_wp2
      go_roundw
      case measure =>
        rw [← HE.out]
        simp only [strN, hz, hz2]
        omega
      case rel => exact ⟨k + 1, by omega, by rw [HE.out], trivial⟩
    · obtain rfl : k = 299 := by omega
      obtain ⟨L, hL⟩ : ∃ L, L = flong := ⟨_, rfl⟩
      have hzL : L.size = 300 := by rw [hL]; exact hz
      rw [show fl1 299 = L from hL.symm]
      have HL : Hid _ := hL
      clear hz hL
      go_wp2_with fail
      go_loopw [2, 8] (fun s i wr => ∃ k : Nat, k ≤ 39 ∧ i = .int .i64 k ∧ s = .string (fdeep k) ∧ wr = w) (fun _ i _ => 39 - (intOf i).toNat)
      case atStart => exact ⟨0, by omega, rfl, rfl, rfl⟩
      case round =>
        obtain ⟨k, hk, rfl, rfl, hw⟩ := hrel
        rw [hw]
        clear hw
        have hz := fdeep_size k
        by_cases hlt : k < 39
        · have HE : Hid (fdeep (k + 1) = { data := #[102, 40] } ++ fdeep k ++ { data := #[41] }) := rfl
          go_wp2
          go_roundw
          case measure => simp [intOf]; omega
          case rel => exact ⟨k + 1, by omega, by go_num, by rw [HE.out], trivial⟩
        · obtain rfl : k = 39 := by omega
          obtain ⟨D, hD⟩ : ∃ D, D = fdeep 39 := ⟨_, rfl⟩
          have hzD : D.size = 118 := by rw [hD]; exact hz
          rw [show fdeep 39 = D from hD.symm]
          have HD : Hid _ := hD
          clear hz hD
          go_wp2
          refine oper_run (v := .slice (some ⟨w.heap.size, 0, none⟩) 55 55) (w' := w.alloc (.cells (fltCC L D) 51)) (by kernel_rfl) ?_
          generalize hZ : w.alloc (.cells (fltCC L D) 51) = Z
          go_wp2
          go_ret
          refine ⟨rfl, ?_⟩
          rw [← hZ, HL.out, HD.out]
          rfl
end Go.Proofs.YtleenphlgbklmabGreatDoor
