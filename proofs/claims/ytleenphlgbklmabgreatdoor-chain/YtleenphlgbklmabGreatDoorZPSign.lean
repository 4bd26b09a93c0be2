import Derived.WalkLawsBesides
import Derived.Deep.LoopGhost
import Derived.Test.YtleenphlgbklmabGreatDoorZTree
import Derived.Lib.Bytealg
set_option linter.unusedVariables false
set_option linter.unusedSimpArgs false
namespace Go.Proofs.YtleenphlgbklmabGreatDoor
open Go.RowKit

theorem pblank_any (c : Int) (w : World) : Calls Tryz.prog 119 #[.int .u8 c] w fun e w' => e = .returned (.bool (blI c)) ∧ w' = w := by
  by_cases h1 : c = 32
  · have E : Hid (blI c = true) := by simp [Hid, blI, h1]
    have d1 : (c == 32) = true := by simp [h1]
    clear h1
    go_enter Tryz.func119, Tryz.ntmps119
    go_wp2
    go_ret
    exact ⟨by rw [E.out]; rfl, rfl⟩
  · have d1 : (c == 32) = false := by simp [h1]
    by_cases h2 : c = 10
    · have E : Hid (blI c = true) := by simp [Hid, blI, h2]
      have d2 : (c == 10) = true := by simp [h2]
      clear h1 h2
      go_enter Tryz.func119, Tryz.ntmps119
      go_wp2
      go_ret
      exact ⟨by rw [E.out]; rfl, rfl⟩
    · have E : Hid (blI c = false) := by simp [Hid, blI, h1, h2]
      have d2 : (c == 10) = false := by simp [h2]
      clear h1 h2
      go_enter Tryz.func119, Tryz.ntmps119
      go_wp2
      go_ret
      exact ⟨by rw [E.out]; rfl, rfl⟩
theorem pletter_any (c : Int) (w : World) : Calls Tryz.prog 137 #[.int .u8 c] w fun e w' => e = .returned (.bool (lowI c)) ∧ w' = w := by
  by_cases h1 : 97 ≤ c
  · by_cases h2 : c ≤ 122
    · have e : lowI c = true := by simp [lowI, h1, h2]
      rw [e]
      clear e
      go_enter Tryz.func137, Tryz.ntmps137
      go_wp2
      go_ret
      exact ⟨rfl, rfl⟩
    · have e : lowI c = false := by simp [lowI]; omega
      rw [e]
      clear e
      go_enter Tryz.func137, Tryz.ntmps137
      go_wp2
      go_ret
      exact ⟨rfl, rfl⟩
  · have e : lowI c = false := by simp [lowI]; omega
    rw [e]
    clear e
    go_enter Tryz.func137, Tryz.ntmps137
    go_wp2
    go_ret
    exact ⟨rfl, rfl⟩
theorem pdigit_any (c : Int) (w : World) : Calls Tryz.prog 154 #[.int .u8 c] w fun e w' => e = .returned (.bool (figI c)) ∧ w' = w := by
  by_cases h1 : 48 ≤ c
  · by_cases h2 : c ≤ 57
    · have e : figI c = true := by simp [figI, h1, h2]
      rw [e]
      clear e
      go_enter Tryz.func154, Tryz.ntmps154
      go_wp2
      go_ret
      exact ⟨rfl, rfl⟩
    · have e : figI c = false := by simp [figI]; omega
      rw [e]
      clear e
      go_enter Tryz.func154, Tryz.ntmps154
      go_wp2
      go_ret
      exact ⟨rfl, rfl⟩
  · have e : figI c = false := by simp [figI]; omega
    rw [e]
    clear e
    go_enter Tryz.func154, Tryz.ntmps154
    go_wp2
    go_ret
    exact ⟨rfl, rfl⟩
theorem pld_any (c : Int) (w : World) : Calls Tryz.prog 138 #[.int .u8 c] w fun e w' => e = .returned (.bool (lfI c)) ∧ w' = w := by
  have e : Hid (lfI c = (lowI c || figI c)) := rfl
  have HL : Hid _ := pletter_any c w
  have HD : Hid _ := pdigit_any c w
  cases l1 : lowI c <;> cases l2 : figI c
  all_goals
    have E : Hid _ := e.out
    rw [l1, l2] at E
    rw [l1] at HL
    rw [l2] at HD
    go_enter Tryz.func138, Tryz.ntmps138
    go_wp2_with (first | (go_at_call 137; refine Calls.mono HL.out ?_; rintro e w' ⟨rfl, hww⟩; rw [hww]; clear hww w') | (go_at_call 154; refine Calls.mono HD.out ?_; rintro e w' ⟨rfl, hww⟩; rw [hww]; clear hww w'))
    go_ret
    exact ⟨by rw [E.out]; rfl, rfl⟩

set_option maxHeartbeats 1000000 in
theorem lead_blank (t : ByteArray) (ht : t.size ≤ 300) (w : World) : Calls Tryz.prog 118 #[.string t, .func (Fn.func 119) #[] #[]] w fun e w' => e = .returned (.int .i64 (run blI t 0 : Nat)) ∧ w' = w := by
  go_enter Tryz.func118, Tryz.ntmps118
  go_wp2
  go_loop [5] (fun v => ∃ j : Nat, v = .int .i64 j ∧ j ≤ t.size ∧ run blI t j = run blI t 0) (fun v => t.size - (intOf v).toNat)
  case atStart => exact ⟨0, rfl, Nat.zero_le _, rfl⟩
  case round =>
    obtain ⟨j, rfl, hj, hrj⟩ := hrel
    have HR : Hid (run blI t j = run blI t 0) := hrj
    clear hrj
    by_cases hlt : j < t.size
    · have hc := chr_eq t j hlt
      have hst := run_step blI t j hlt
      have hsp := run_stop blI t j
      have HC : Hid _ := pblank_any (chr t j) w
      cases hp : blI (chr t j)
      · have E : Hid (j = run blI t 0) := by show _ = _; rw [← HR.out, hsp (fun _ => hp)]
        rw [hp] at HC
        clear hst hsp HR hp
        go_wp2_with (go_at_call 119; refine Calls.mono HC.out ?_; rintro e w' ⟨rfl, hww⟩; rw [hww]; clear hww w')
        go_ret
        exact ⟨by rw [← E.out]; rfl, rfl⟩
      · have E : Hid (run blI t (j + 1) = run blI t 0) := by show _ = _; rw [← hst hp]; exact HR.out
        rw [hp] at HC
        clear hst hsp HR hp
        go_wp2_with (go_at_call 119; refine Calls.mono HC.out ?_; rintro e w' ⟨rfl, hww⟩; rw [hww]; clear hww w')
        go_round
        case rel => exact ⟨j + 1, by go_num, by omega, E.out⟩
        case measure => simp [intOf]; omega
    · have E : Hid (j = run blI t 0) := by show _ = _; rw [← HR.out, run_stop blI t j (fun h => absurd h hlt)]
      clear HR
      go_wp2
      go_ret
      exact ⟨by rw [← E.out]; rfl, rfl⟩
set_option maxHeartbeats 1000000 in
theorem lead_ld (t : ByteArray) (ht : t.size ≤ 300) (w : World) : Calls Tryz.prog 118 #[.string t, .func (Fn.func 138) #[] #[]] w fun e w' => e = .returned (.int .i64 (run lfI t 0 : Nat)) ∧ w' = w := by
  go_enter Tryz.func118, Tryz.ntmps118
  go_wp2
  go_loop [5] (fun v => ∃ j : Nat, v = .int .i64 j ∧ j ≤ t.size ∧ run lfI t j = run lfI t 0) (fun v => t.size - (intOf v).toNat)
  case atStart => exact ⟨0, rfl, Nat.zero_le _, rfl⟩
  case round =>
    obtain ⟨j, rfl, hj, hrj⟩ := hrel
    have HR : Hid (run lfI t j = run lfI t 0) := hrj
    clear hrj
    by_cases hlt : j < t.size
    · have hc := chr_eq t j hlt
      have hst := run_step lfI t j hlt
      have hsp := run_stop lfI t j
      have HC : Hid _ := pld_any (chr t j) w
      cases hp : lfI (chr t j)
      · have E : Hid (j = run lfI t 0) := by show _ = _; rw [← HR.out, hsp (fun _ => hp)]
        rw [hp] at HC
        clear hst hsp HR hp
        go_wp2_with (go_at_call 138; refine Calls.mono HC.out ?_; rintro e w' ⟨rfl, hww⟩; rw [hww]; clear hww w')
        go_ret
        exact ⟨by rw [← E.out]; rfl, rfl⟩
      · have E : Hid (run lfI t (j + 1) = run lfI t 0) := by show _ = _; rw [← hst hp]; exact HR.out
        rw [hp] at HC
        clear hst hsp HR hp
        go_wp2_with (go_at_call 138; refine Calls.mono HC.out ?_; rintro e w' ⟨rfl, hww⟩; rw [hww]; clear hww w')
        go_round
        case rel => exact ⟨j + 1, by go_num, by omega, E.out⟩
        case measure => simp [intOf]; omega
    · have E : Hid (j = run lfI t 0) := by show _ = _; rw [← HR.out, run_stop lfI t j (fun h => absurd h hlt)]
      clear HR
      go_wp2
      go_ret
      exact ⟨by rw [← E.out]; rfl, rfl⟩
set_option maxHeartbeats 1000000 in
theorem lead_digit (t : ByteArray) (ht : t.size ≤ 300) (w : World) : Calls Tryz.prog 118 #[.string t, .func (Fn.func 154) #[] #[]] w fun e w' => e = .returned (.int .i64 (run figI t 0 : Nat)) ∧ w' = w := by
  go_enter Tryz.func118, Tryz.ntmps118
  go_wp2
  go_loop [5] (fun v => ∃ j : Nat, v = .int .i64 j ∧ j ≤ t.size ∧ run figI t j = run figI t 0) (fun v => t.size - (intOf v).toNat)
  case atStart => exact ⟨0, rfl, Nat.zero_le _, rfl⟩
  case round =>
    obtain ⟨j, rfl, hj, hrj⟩ := hrel
    have HR : Hid (run figI t j = run figI t 0) := hrj
    clear hrj
    by_cases hlt : j < t.size
    · have hc := chr_eq t j hlt
      have hst := run_step figI t j hlt
      have hsp := run_stop figI t j
      have HC : Hid _ := pdigit_any (chr t j) w
      cases hp : figI (chr t j)
      · have E : Hid (j = run figI t 0) := by show _ = _; rw [← HR.out, hsp (fun _ => hp)]
        rw [hp] at HC
        clear hst hsp HR hp
        go_wp2_with (go_at_call 154; refine Calls.mono HC.out ?_; rintro e w' ⟨rfl, hww⟩; rw [hww]; clear hww w')
        go_ret
        exact ⟨by rw [← E.out]; rfl, rfl⟩
      · have E : Hid (run figI t (j + 1) = run figI t 0) := by show _ = _; rw [← hst hp]; exact HR.out
        rw [hp] at HC
        clear hst hsp HR hp
        go_wp2_with (go_at_call 154; refine Calls.mono HC.out ?_; rintro e w' ⟨rfl, hww⟩; rw [hww]; clear hww w')
        go_round
        case rel => exact ⟨j + 1, by go_num, by omega, E.out⟩
        case measure => simp [intOf]; omega
    · have E : Hid (j = run figI t 0) := by show _ = _; rw [← HR.out, run_stop figI t j (fun h => absurd h hlt)]
      clear HR
      go_wp2
      go_ret
      exact ⟨by rw [← E.out]; rfl, rfl⟩

/-- the bytes of what is left of a text. -/
theorem chr_rest (s : ByteArray) (k j : Nat) (hk : k ≤ s.size) : chr (s.extract k s.size) j = chr s (k + j) := by
  unfold chr
  by_cases h : k + j < s.size
  · have h2 : j < (s.extract k s.size).size := by simp [ByteArray.size_extract]; omega
    rw [dif_pos h2, dif_pos h]
    simp [ByteArray.getElem_extract]
  · have h2 : ¬ j < (s.extract k s.size).size := by simp [ByteArray.size_extract]; omega
    rw [dif_neg h2, dif_neg h]
theorem runF_rest (p : Int → Bool) (s : ByteArray) (k : Nat) (hk : k ≤ s.size) : ∀ f j, k + runF p (s.extract k s.size) f j = runF p s f (k + j)
  | 0, j => rfl
  | f + 1, j => by
    have hz : (s.extract k s.size).size = s.size - k := by simp [ByteArray.size_extract]
    rw [runF, runF, chr_rest s k j hk, hz]
    by_cases h : j < s.size - k ∧ p (chr s (k + j)) = true
    · rw [if_pos h, if_pos ⟨by omega, h.2⟩]
      exact runF_rest p s k hk f (j + 1)
    · rw [if_neg h, if_neg (fun q => h ⟨by omega, q.2⟩)]
theorem run_rest (p : Int → Bool) (s : ByteArray) (k : Nat) (hk : k ≤ s.size) : k + run p (s.extract k s.size) 0 = run p s k := by
  have hz : (s.extract k s.size).size = s.size - k := by simp [ByteArray.size_extract]
  unfold run
  rw [hz]
  have := runF_rest p s k hk (s.size - k) 0
  simpa using this
end Go.Proofs.YtleenphlgbklmabGreatDoor

namespace Go.Proofs.YtleenphlgbklmabGreatDoor
open Go.RowKit

theorem sign_idx (b : UInt8) : decide (0 ≤ Lib.indexByte [61, 40, 41, 44, 91, 93] b) = isSign (b.toNat : Int) := by
  by_cases h1 : b = 61
  · subst h1; rfl
  by_cases h2 : b = 40
  · subst h2; rfl
  by_cases h3 : b = 41
  · subst h3; rfl
  by_cases h4 : b = 44
  · subst h4; rfl
  by_cases h5 : b = 91
  · subst h5; rfl
  by_cases h6 : b = 93
  · subst h6; rfl
  have e : ∀ k : UInt8, b ≠ k → (k == b) = false := fun k hk => by simp; exact fun q => hk q.symm
  have n : ∀ k : UInt8, b ≠ k → ¬ ((b.toNat : Int) = (k.toNat : Int)) := fun k hk q => hk (UInt8.toNat_inj.1 (by omega))
  have m1 := n 61 h1
  have m2 := n 40 h2
  have m3 := n 41 h3
  have m4 := n 44 h4
  have m5 := n 91 h5
  have m6 := n 93 h6
  simp only [Lib.indexByte, e 61 h1, e 40 h2, e 41 h3, e 44 h4, e 91 h5, e 93 h6]
  simp only [isSign]
  simp at m1 m2 m3 m4 m5 m6
  simp
  omega
theorem sibs_any (s : ByteArray) (c : Int) (w : World) : Calls Tryz.prog 172 #[.string s, .int .u8 c] w fun e w' => e = .returned (.int .i64 (Lib.indexByte s.data.toList c.toNat.toUInt8)) ∧ w' = w := by
  have hx := @run_callFunc_extern Tryz.prog 196 _ Extern.BytealgIndexByte.indexByte Tryz.func196 (by kernel_rfl) (by kernel_rfl) (by kernel_rfl) (by kernel_rfl)
  have hr := Lib.run_indexByteString (P := Tryz.prog) s c w
  generalize Lib.indexByte s.data.toList c.toNat.toUInt8 = r at *
  go_enter Tryz.func172, Tryz.ntmps172
  go_wp2
  go_ret
  exact ⟨rfl, rfl⟩
set_option maxHeartbeats 1000000 in
theorem shp_any (s p : ByteArray) (w : World) (hs : s.size ≤ 300) (hp : p.size ≤ 300) : Calls Tryz.prog 171 #[.string s, .string p] w fun e w' => e = .returned (.bool (decide (p.size ≤ s.size) && ((s.extract 0 p.size).toList == p.toList))) ∧ w' = w := by
  by_cases h : p.size ≤ s.size
  · have hd : decide (p.size ≤ s.size) = true := by simp [h]
    rw [hd]
    cases hq : ((s.extract 0 p.size).toList == p.toList)
    all_goals
      go_enter Tryz.func171, Tryz.ntmps171
      go_wp2
      go_ret
      exact ⟨rfl, rfl⟩
  · have hd : decide (p.size ≤ s.size) = false := by simp; omega
    rw [hd]
    go_enter Tryz.func171, Tryz.ntmps171
    go_wp2
    go_ret
    exact ⟨rfl, rfl⟩
theorem pre2 (t : ByteArray) (h : 2 ≤ t.size) : ((t.extract 0 2).toList == [45, 62]) = (decide (chr t 0 = 45) && decide (chr t 1 = 62)) := by
  have hl : (t.extract 0 2).toList = [t[0], t[1]] := by
    rw [ByteArray.toList_eq]
    apply List.ext_getElem
    · simp [ByteArray.size_extract] ; omega
    · intro i h1 h2
      have hi : i = 0 ∨ i = 1 := by simp at h2; omega
      rcases hi with rfl | rfl <;> simp [ByteArray.data_extract] <;> rfl
  rw [hl, chr, chr, dif_pos (by omega), dif_pos (by omega)]
  have e : ∀ (b : UInt8) (k : Nat), k < 256 → ((b == UInt8.ofNat k) = decide ((b.toNat : Int) = (k : Int))) := fun b k hk => by
    by_cases q : b = UInt8.ofNat k
    · subst q
      simp [UInt8.toNat_ofNat', Nat.mod_eq_of_lt hk]
    · have : ¬ ((b.toNat : Int) = (k : Int)) := fun z => q (UInt8.toNat_inj.1 (by rw [UInt8.toNat_ofNat', Nat.mod_eq_of_lt hk]; omega))
      simp [q, this]
  have e1 := e t[0] 45 (by decide)
  have e2 := e t[1] 62 (by decide)
  have e3 : ([t[0], t[1]] == ([45, 62] : List UInt8)) = ((t[0] == UInt8.ofNat 45) && (t[1] == UInt8.ofNat 62)) := by
    show ((t[0] == 45) && ((t[1] == 62) && true)) = _
    rw [Bool.and_true]
    rfl
  rw [e3, e1, e2]
  rfl

set_option maxRecDepth 20000 in
set_option maxHeartbeats 2000000 in
theorem signlen_any (t : ByteArray) (ht : t.size ≤ 300) (h0 : 0 < t.size) (w : World) :
    Calls Tryz.prog 155 #[.string t] w fun e w' => e = .returned (.int .i64 (if chr t 0 = 45 ∧ 1 < t.size ∧ chr t 1 = 62 then 2 else if isSign (chr t 0) then 1 else 0)) ∧ w' = w := by
  have HP : Hid _ := shp_any t { data := #[45, 62] } w ht (by decide)
  have hp : (decide ((({ data := #[45, 62] } : ByteArray).size) ≤ t.size) && ((t.extract 0 (({ data := #[45, 62] } : ByteArray).size)).toList == ({ data := #[45, 62] } : ByteArray).toList)) = decide (chr t 0 = 45 ∧ 1 < t.size ∧ chr t 1 = 62) := by
    rw [show (({ data := #[45, 62] } : ByteArray).size) = 2 from rfl, show ({ data := #[45, 62] } : ByteArray).toList = [45, 62] from by rw [ByteArray.toList_eq]]
    by_cases h2 : 2 ≤ t.size
    · rw [pre2 t h2]
      have : 1 < t.size := by omega
      simp [this, h2]
    · have : ¬ 1 < t.size := by omega
      simp [this, h2]
  rw [hp] at HP
  clear hp
  have HI : Hid _ := sibs_any { data := #[61, 40, 41, 44, 91, 93] } (chr t 0) w
  have hc := chr_eq t 0 h0
  have hsi : decide (0 ≤ Lib.indexByte [61, 40, 41, 44, 91, 93] (chr t 0).toNat.toUInt8) = isSign (chr t 0) := by
    have := sign_idx t[0]
    rw [hc] at this
    rw [← this, ← hc]
    simp
  by_cases hA : chr t 0 = 45 ∧ 1 < t.size ∧ chr t 1 = 62
  · have hd : decide (chr t 0 = 45 ∧ 1 < t.size ∧ chr t 1 = 62) = true := by simp [hA]
    rw [hd] at HP
    rw [if_pos hA]
    clear hA hsi HI hd
    go_enter Tryz.func155, Tryz.ntmps155
    go_wp2_with fail
    refine Calls.mono HP.out ?_
    rintro e w' ⟨rfl, hww⟩
    rw [hww]
    clear hww w'
    go_wp2
    go_ret
    exact ⟨rfl, rfl⟩
  · have hd : decide (chr t 0 = 45 ∧ 1 < t.size ∧ chr t 1 = 62) = false := by simp [hA]
    rw [hd] at HP
    rw [if_neg hA]
    clear hA hd
    have HI2 : Hid (Calls Tryz.prog 172 #[.string { data := #[61, 40, 41, 44, 91, 93] }, .int .u8 (chr t 0)] w fun e w' => e = .returned (.int .i64 (Lib.indexByte [61, 40, 41, 44, 91, 93] (chr t 0).toNat.toUInt8)) ∧ w' = w) := HI.out
    clear HI
    generalize Lib.indexByte [61, 40, 41, 44, 91, 93] (chr t 0).toNat.toUInt8 = r at *
    cases hs : isSign (chr t 0)
    all_goals
      rw [hs] at hsi
      go_enter Tryz.func155, Tryz.ntmps155
      go_wp2_with fail
      refine Calls.mono HP.out ?_
      rintro e w' ⟨rfl, hww⟩
      rw [hww]
      clear hww w'
      go_wp2_with fail
      refine Calls.mono HI2.out ?_
      rintro e w' ⟨rfl, hww⟩
      rw [hww]
      clear hww w'
      go_wp2
      go_ret
      exact ⟨rfl, rfl⟩
end Go.Proofs.YtleenphlgbklmabGreatDoor
