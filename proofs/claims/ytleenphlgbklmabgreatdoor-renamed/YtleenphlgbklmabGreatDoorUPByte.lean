import Derived.Test.YtleenphlgbklmabGreatDoorUGrow
import Derived.WalkLawsBesides
import Derived.Deep.LoopGhost
set_option linter.unusedVariables false
set_option linter.unusedSimpArgs false
namespace Go.Proofs.YtleenphlgbklmabGreatDoor
open Go.RowKit

theorem pblank_any (c : Int) (w : World) : Calls Tryz.prog 119 #[.int .u8 c] w fun e w' => e = .returned (.bool (blI c)) ∧ w' = w := by
  by_cases h1 : c = 32
  · have E : Hid (blI c = true) := by simp [Hid, blI, h1]
    have d1 : (c == 32) = true := by simp [h1]
    clear h1
    go_enter Tryz.func119, Tryz.ntmps119
    go_wp2
    go_ret
    exact ⟨by rw [E.out]; rfl, rfl⟩
  · have d1 : (c == 32) = false := by simp [h1]
    by_cases h2 : c = 10
    · have E : Hid (blI c = true) := by simp [Hid, blI, h2]
      have d2 : (c == 10) = true := by simp [h2]
      clear h1 h2
      go_enter Tryz.func119, Tryz.ntmps119
      go_wp2
      go_ret
      exact ⟨by rw [E.out]; rfl, rfl⟩
    · have E : Hid (blI c = false) := by simp [Hid, blI, h1, h2]
      have d2 : (c == 10) = false := by simp [h2]
      clear h1 h2
      go_enter Tryz.func119, Tryz.ntmps119
      go_wp2
      go_ret
      exact ⟨by rw [E.out]; rfl, rfl⟩
theorem pletter_any (c : Int) (w : World) : Calls Tryz.prog 137 #[.int .u8 c] w fun e w' => e = .returned (.bool (lowI c)) ∧ w' = w := by
  by_cases h1 : 97 ≤ c
  · by_cases h2 : c ≤ 122
    · have e : lowI c = true := by simp [lowI, h1, h2]
      rw [e]
      clear e
      go_enter Tryz.func137, Tryz.ntmps137
      go_wp2
      go_ret
      exact ⟨rfl, rfl⟩
    · have e : lowI c = false := by simp [lowI]; omega
      rw [e]
      clear e
      go_enter Tryz.func137, Tryz.ntmps137
      go_wp2
      go_ret
      exact ⟨rfl, rfl⟩
  · have e : lowI c = false := by simp [lowI]; omega
    rw [e]
    clear e
    go_enter Tryz.func137, Tryz.ntmps137
    go_wp2
    go_ret
    exact ⟨rfl, rfl⟩
theorem pdigit_any (c : Int) (w : World) : Calls Tryz.prog 154 #[.int .u8 c] w fun e w' => e = .returned (.bool (figI c)) ∧ w' = w := by
  by_cases h1 : 48 ≤ c
  · by_cases h2 : c ≤ 57
    · have e : figI c = true := by simp [figI, h1, h2]
      rw [e]
      clear e
      go_enter Tryz.func154, Tryz.ntmps154
      go_wp2
      go_ret
      exact ⟨rfl, rfl⟩
    · have e : figI c = false := by simp [figI]; omega
      rw [e]
      clear e
      go_enter Tryz.func154, Tryz.ntmps154
      go_wp2
      go_ret
      exact ⟨rfl, rfl⟩
  · have e : figI c = false := by simp [figI]; omega
    rw [e]
    clear e
    go_enter Tryz.func154, Tryz.ntmps154
    go_wp2
    go_ret
    exact ⟨rfl, rfl⟩
theorem pld_any (c : Int) (w : World) : Calls Tryz.prog 138 #[.int .u8 c] w fun e w' => e = .returned (.bool (lfI c)) ∧ w' = w := by
  have e : Hid (lfI c = (lowI c || figI c)) := rfl
  have HL : Hid _ := pletter_any c w
  have HD : Hid _ := pdigit_any c w
  cases l1 : lowI c <;> cases l2 : figI c
  all_goals
    have E : Hid _ := e.out
    rw [l1, l2] at E
    rw [l1] at HL
    rw [l2] at HD
    go_enter Tryz.func138, Tryz.ntmps138
    go_wp2_with (first | (go_at_call 137; refine Calls.mono HL.out ?_; rintro e w' ⟨rfl, hww⟩; rw [hww]; clear hww w') | (go_at_call 154; refine Calls.mono HD.out ?_; rintro e w' ⟨rfl, hww⟩; rw [hww]; clear hww w'))
    go_ret
    exact ⟨by rw [E.out]; rfl, rfl⟩

set_option maxHeartbeats 1000000 in
theorem lead_blank (t : ByteArray) (ht : t.size ≤ 300) (w : World) : Calls Tryz.prog 118 #[.string t, .func (Fn.func 119) #[] #[]] w fun e w' => e = .returned (.int .i64 (run blI t 0 : Nat)) ∧ w' = w := by
  go_enter Tryz.func118, Tryz.ntmps118
  go_wp2
  go_loop [5] (fun v => ∃ j : Nat, v = .int .i64 j ∧ j ≤ t.size ∧ run blI t j = run blI t 0) (fun v => t.size - (intOf v).toNat)
  case atStart => exact ⟨0, rfl, Nat.zero_le _, rfl⟩
  case round =>
    obtain ⟨j, rfl, hj, hrj⟩ := hrel
    have HR : Hid (run blI t j = run blI t 0) := hrj
    clear hrj
    by_cases hlt : j < t.size
    · have hc := chr_eq t j hlt
      have hst := run_step blI t j hlt
      have hsp := run_stop blI t j
      have HC : Hid _ := pblank_any (chr t j) w
      cases hp : blI (chr t j)
      · have E : Hid (j = run blI t 0) := by show _ = _; rw [← HR.out, hsp (fun _ => hp)]
        rw [hp] at HC
        clear hst hsp HR hp
        go_wp2_with (go_at_call 119; refine Calls.mono HC.out ?_; rintro e w' ⟨rfl, hww⟩; rw [hww]; clear hww w')
        go_ret
        exact ⟨by rw [← E.out]; rfl, rfl⟩
      · have E : Hid (run blI t (j + 1) = run blI t 0) := by show _ = _; rw [← hst hp]; exact HR.out
        rw [hp] at HC
        clear hst hsp HR hp
        go_wp2_with (go_at_call 119; refine Calls.mono HC.out ?_; rintro e w' ⟨rfl, hww⟩; rw [hww]; clear hww w')
        go_round
        case rel => exact ⟨j + 1, by go_num, by omega, E.out⟩
        case measure => simp [intOf]; omega
    · have E : Hid (j = run blI t 0) := by show _ = _; rw [← HR.out, run_stop blI t j (fun h => absurd h hlt)]
      clear HR
      go_wp2
      go_ret
      exact ⟨by rw [← E.out]; rfl, rfl⟩
set_option maxHeartbeats 1000000 in
theorem lead_ld (t : ByteArray) (ht : t.size ≤ 300) (w : World) : Calls Tryz.prog 118 #[.string t, .func (Fn.func 138) #[] #[]] w fun e w' => e = .returned (.int .i64 (run lfI t 0 : Nat)) ∧ w' = w := by
  go_enter Tryz.func118, Tryz.ntmps118
  go_wp2
  go_loop [5] (fun v => ∃ j : Nat, v = .int .i64 j ∧ j ≤ t.size ∧ run lfI t j = run lfI t 0) (fun v => t.size - (intOf v).toNat)
  case atStart => exact ⟨0, rfl, Nat.zero_le _, rfl⟩
  case round =>
    obtain ⟨j, rfl, hj, hrj⟩ := hrel
    have HR : Hid (run lfI t j = run lfI t 0) := hrj
    clear hrj
    by_cases hlt : j < t.size
    · have hc := chr_eq t j hlt
      have hst := run_step lfI t j hlt
      have hsp := run_stop lfI t j
      have HC : Hid _ := pld_any (chr t j) w
      cases hp : lfI (chr t j)
      · have E : Hid (j = run lfI t 0) := by show _ = _; rw [← HR.out, hsp (fun _ => hp)]
        rw [hp] at HC
        clear hst hsp HR hp
        go_wp2_with (go_at_call 138; refine Calls.mono HC.out ?_; rintro e w' ⟨rfl, hww⟩; rw [hww]; clear hww w')
        go_ret
        exact ⟨by rw [← E.out]; rfl, rfl⟩
      · have E : Hid (run lfI t (j + 1) = run lfI t 0) := by show _ = _; rw [← hst hp]; exact HR.out
        rw [hp] at HC
        clear hst hsp HR hp
        go_wp2_with (go_at_call 138; refine Calls.mono HC.out ?_; rintro e w' ⟨rfl, hww⟩; rw [hww]; clear hww w')
        go_round
        case rel => exact ⟨j + 1, by go_num, by omega, E.out⟩
        case measure => simp [intOf]; omega
    · have E : Hid (j = run lfI t 0) := by show _ = _; rw [← HR.out, run_stop lfI t j (fun h => absurd h hlt)]
      clear HR
      go_wp2
      go_ret
      exact ⟨by rw [← E.out]; rfl, rfl⟩
set_option maxHeartbeats 1000000 in
theorem lead_digit (t : ByteArray) (ht : t.size ≤ 300) (w : World) : Calls Tryz.prog 118 #[.string t, .func (Fn.func 154) #[] #[]] w fun e w' => e = .returned (.int .i64 (run figI t 0 : Nat)) ∧ w' = w := by
  go_enter Tryz.func118, Tryz.ntmps118
  go_wp2
  go_loop [5] (fun v => ∃ j : Nat, v = .int .i64 j ∧ j ≤ t.size ∧ run figI t j = run figI t 0) (fun v => t.size - (intOf v).toNat)
  case atStart => exact ⟨0, rfl, Nat.zero_le _, rfl⟩
  case round =>
    obtain ⟨j, rfl, hj, hrj⟩ := hrel
    have HR : Hid (run figI t j = run figI t 0) := hrj
    clear hrj
    by_cases hlt : j < t.size
    · have hc := chr_eq t j hlt
      have hst := run_step figI t j hlt
      have hsp := run_stop figI t j
      have HC : Hid _ := pdigit_any (chr t j) w
      cases hp : figI (chr t j)
      · have E : Hid (j = run figI t 0) := by show _ = _; rw [← HR.out, hsp (fun _ => hp)]
        rw [hp] at HC
        clear hst hsp HR hp
        go_wp2_with (go_at_call 154; refine Calls.mono HC.out ?_; rintro e w' ⟨rfl, hww⟩; rw [hww]; clear hww w')
        go_ret
        exact ⟨by rw [← E.out]; rfl, rfl⟩
      · have E : Hid (run figI t (j + 1) = run figI t 0) := by show _ = _; rw [← hst hp]; exact HR.out
        rw [hp] at HC
        clear hst hsp HR hp
        go_wp2_with (go_at_call 154; refine Calls.mono HC.out ?_; rintro e w' ⟨rfl, hww⟩; rw [hww]; clear hww w')
        go_round
        case rel => exact ⟨j + 1, by go_num, by omega, E.out⟩
        case measure => simp [intOf]; omega
    · have E : Hid (j = run figI t 0) := by show _ = _; rw [← HR.out, run_stop figI t j (fun h => absurd h hlt)]
      clear HR
      go_wp2
      go_ret
      exact ⟨by rw [← E.out]; rfl, rfl⟩

/-- the bytes of what is left of a text. -/
theorem chr_rest (s : ByteArray) (k j : Nat) (hk : k ≤ s.size) : chr (s.extract k s.size) j = chr s (k + j) := by
  unfold chr
  by_cases h : k + j < s.size
  · have h2 : j < (s.extract k s.size).size := by simp [ByteArray.size_extract]; omega
    rw [dif_pos h2, dif_pos h]
    simp [ByteArray.getElem_extract]
  · have h2 : ¬ j < (s.extract k s.size).size := by simp [ByteArray.size_extract]; omega
    rw [dif_neg h2, dif_neg h]
theorem runF_rest (p : Int → Bool) (s : ByteArray) (k : Nat) (hk : k ≤ s.size) : ∀ f j, k + runF p (s.extract k s.size) f j = runF p s f (k + j)
  | 0, j => rfl
  | f + 1, j => by
    have hz : (s.extract k s.size).size = s.size - k := by simp [ByteArray.size_extract]
    rw [runF, runF, chr_rest s k j hk, hz]
    by_cases h : j < s.size - k ∧ p (chr s (k + j)) = true
    · rw [if_pos h, if_pos ⟨by omega, h.2⟩]
      exact runF_rest p s k hk f (j + 1)
    · rw [if_neg h, if_neg (fun q => h ⟨by omega, q.2⟩)]
theorem run_rest (p : Int → Bool) (s : ByteArray) (k : Nat) (hk : k ≤ s.size) : k + run p (s.extract k s.size) 0 = run p s k := by
  have hz : (s.extract k s.size).size = s.size - k := by simp [ByteArray.size_extract]
  unfold run
  rw [hz]
  have := runF_rest p s k hk (s.size - k) 0
  simpa using this
end Go.Proofs.YtleenphlgbklmabGreatDoor
