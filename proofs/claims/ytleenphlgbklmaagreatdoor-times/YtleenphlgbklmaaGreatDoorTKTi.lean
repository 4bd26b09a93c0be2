import Derived.Test.YtleenphlgbklmaaGreatDoorTKTa
set_option linter.unusedVariables false
set_option linter.unusedSimpArgs false
namespace Go.Proofs.YtleenphlgbklmaaGreatDoor
open Go.RowKit

theorem has_txt {A : Nat → Addr} {s t : ByteArray} (h : inferF false 6 s envS = some (.txt t)) (W : World) (hG : Glb A W) : Calls Tryz.prog 33 #[.string s, .string t] W fun e w' => e = .returned (.bool true) ∧ Kept W w' := by
  have h2 := ki_hi (rk := false) (o := .txt t) W hG h trivial (fun z => by cases z) (fun z => by cases z)
  exact khas_sx t (kinfer_sx (t := t) (what := 0) (loc := 0) (ss := { data := #[] }) h2) rfl rfl
theorem tm_has {A : Nat → Addr} {k : Nat} (h : k < 20) (W : World) (hG : Glb A W) : Calls Tryz.prog 33 #[.string ({ data := #[102, 117, 110, 32, 102, 32, 45, 62, 32, 102, 117, 110, 32, 120, 32, 45, 62, 32] } ++ tmS k), .string (tmT k)] W fun e w' => e = .returned (.bool true) ∧ Kept W w' := has_txt (tm_at h) W hG
set_option maxRecDepth 20000 in
set_option maxHeartbeats 2000000 in
theorem times_any {A : Nat → Addr} (c : Int) (w : World) (hG : Glb A w) (h1 : -9223372036854775808 ≤ c) (h2 : c ≤ 9223372036854775807) : Calls Tryz.prog 11 #[.int .i64 c] w fun e w' => e = .returned (.bool true) ∧ Kept w w' := by
  have HP : Hid _ := pick_sx c 20 w h1 h2 (by omega) (by omega)
  obtain ⟨k, hk, hkl⟩ : ∃ k : Nat, pickI c 20 = k ∧ k < 20 := by
    have := pickI_lt c 20 (by omega)
    exact ⟨(pickI c 20).toNat, by omega, by omega⟩
  rw [hk] at HP
  have HG : Hid _ := hG
  clear hk h1 h2 hG
  go_enter Tryz.func11, Tryz.ntmps11
  go_wp2_with fail
  refine Calls.mono HP.out ?_
  rintro e w' ⟨rfl, hww⟩
  rw [hww]
  clear hww w' HP
  go_wp2_with fail
  go_loopw [3, 8] (fun s i wr => ∃ q : Nat, q ≤ k ∧ i = .int .i64 q ∧ s = .string (tmS q) ∧ wr = w) (fun _ i _ => k - (intOf i).toNat)
  case atStart => exact ⟨0, Nat.zero_le _, rfl, rfl, rfl⟩
  case round =>
    obtain ⟨q, hq, rfl, rfl, hw⟩ := hrel
    rw [hw]
    clear hw
    have hz := tmS_size q
    by_cases hlt : q < k
    · go_wp2
      go_roundw
      case measure => simp [intOf]; omega
      case rel => exact ⟨q + 1, hlt, by go_num, rfl, trivial⟩
    · have hqk : q = k := by omega
      subst hqk
      have hzz : ({ data := #[102, 117, 110, 32, 102, 32, 45, 62, 32, 102, 117, 110, 32, 120, 32, 45, 62, 32] } ++ tmS q : ByteArray).size ≤ 300 := by
        rw [ByteArray.size_append, hz]
        show 18 + _ ≤ 300
        omega
      have HC : Hid _ := tm_has hkl w HG.out
      have hT0 : q = 0 → tmT q = tmT 0 := fun h => by rw [h]
      have hT1 : q = 1 → tmT q = tmT 1 := fun h => by rw [h]
      have hT2 : ¬ q = 0 → ¬ q = 1 → tmT q = tmT 2 := fun h h' => by
        obtain ⟨m, rfl⟩ : ∃ m, q = m + 2 := ⟨q - 2, by omega⟩
        rfl
      generalize tmT q = tq at *
      by_cases h0 : q = 0
      · have e0 := hT0 h0
        subst e0
        subst h0
        clear hT0 hT1 hT2 hlt hq
        go_wp2_with fail
        refine Calls.mono HC.out ?_
        rintro e w' ⟨rfl, hk⟩
        have HK : Hid _ := hk
        clear hk HC
        go_wp2
        go_ret
        exact ⟨rfl, HK.out⟩
      · by_cases h1 : q = 1
        · have e0 := hT1 h1
          subst e0
          subst h1
          clear hT0 hT1 hT2 hlt hq
          go_wp2_with fail
          refine Calls.mono HC.out ?_
          rintro e w' ⟨rfl, hk⟩
          have HK : Hid _ := hk
          clear hk HC
          go_wp2
          go_ret
          exact ⟨rfl, HK.out⟩
        · have e0 := hT2 h0 h1
          have hi : ¬ (q : Int) = 0 := by omega
          have hi1 : ¬ (q : Int) = 1 := by omega
          subst e0
          clear hT0 hT1 hT2 hlt hq
          go_wp2_with fail
          refine Calls.mono HC.out ?_
          rintro e w' ⟨rfl, hk⟩
          have HK : Hid _ := hk
          clear hk HC
          go_wp2
          go_ret
          exact ⟨rfl, HK.out⟩
end Go.Proofs.YtleenphlgbklmaaGreatDoor
