import Derived.Test.YtleenphlgbklmabGreatDoorXKRe2
set_option linter.unusedVariables false
set_option linter.unusedSimpArgs false
namespace Go.Proofs.YtleenphlgbklmabGreatDoor
open Go.RowKit

set_option maxRecDepth 20000 in
set_option maxHeartbeats 4000000 in
theorem ref_3 {A : Nat → Addr} (c : Int) (w : World) (hG : Glb A w) (HP : Hid (∀ W, Calls Tryz.prog 11 #[.int .i64 c, .int .i64 63] W fun e w' => e = .returned (.int .i64 58) ∧ w' = W)) : Calls Tryz.prog 7 #[.int .i64 c] w fun e w' => e = .returned (.bool true) ∧ Kept w w' := by
  have hk1 : Kept w (w.alloc (.cells fltC 51)) := Kept.alloc _ _
  have HLS : Hid (Calls Tryz.prog 18 #[] w fun e w' => e = .returned (.slice (some ⟨w.heap.size, 0, none⟩) 55 55) ∧ w' = w.alloc (.cells fltC 51)) := faults_sx w
  generalize w.alloc (.cells fltC 51) = W at *
  have HK0 : Hid _ := hk1
  have HG0 : Hid _ := hG.kept hk1
  clear hk1 hG
  go_enter Tryz.func7, Tryz.ntmps7
  go_wp2_with fail
  refine Calls.mono HLS.out ?_
  rintro e w1 ⟨rfl, hww⟩
  rw [hww]
  clear hww w1 HLS
  go_wp2_with fail
  refine Calls.mono (HP.out _) ?_
  rintro e w1 ⟨rfl, hww⟩
  rw [hww]
  clear hww w1 HP
  go_wp2_with fail
  go_loopw [9] (fun s wr => ∃ k : Nat, k ≤ 301 ∧ s = .string (lx k) ∧ wr = W) (fun s _ => 301 - strN s)
  case atStart => exact ⟨0, by omega, rfl, rfl⟩
  case round =>
    obtain ⟨k, hk, rfl, hw⟩ := hrel
    rw [hw]
    clear hw
    have hz := lx_size k
    by_cases hlt : k ≤ 300
    · have HE : Hid _ := lx_snoc k
      have hz2 := lx_size (k + 1)
      clear HK0 HG0
      go_wp2
      go_roundw
      case measure =>
        rw [← HE.out]
        simp only [strN, hz, hz2]
        omega
      case rel => exact ⟨k + 1, by omega, by rw [HE.out], trivial⟩
    · obtain rfl : k = 301 := by omega
      generalize lx 301 = L at *
      go_wp2_with fail
      refine Calls.mono (inf_rows (w := W) [({ data := #[108, 101, 116] }, { data := #[105, 110, 116] })] (m := 1) rfl (by omega) (by decide +kernel) rfl rfl (fun V hk => hi_three ((HG0.out).kept hk))) ?_
      rintro e u0x ⟨rfl, hkc⟩
      have hk0a : Kept u0x (u0x.alloc (.cells #[.int .i64 5, .int .i64 0, .string { data := #[108, 101, 116] }, .int .i64 0, .int .i64 0] 23)) := Kept.alloc _ _
      have hb0a := heap_alloc_new u0x (.cells #[.int .i64 5, .int .i64 0, .string { data := #[108, 101, 116] }, .int .i64 0, .int .i64 0] 23)
      have HK1 : Hid _ := (HK0.out.trans hkc).trans hk0a
      have HG1 : Hid _ := (HG0.out.kept hkc).kept hk0a
      have HB0_0v : Hid _ := hb0a
      clear hkc hk0a hb0a HK0 HG0 
      try unfold faultVal
      try unfold faultV5
      have c0_0 : (u0x.alloc (.cells #[.int .i64 5, .int .i64 0, .string { data := #[108, 101, 116] }, .int .i64 0, .int .i64 0] 23)).cell? ⟨u0x.heap.size, 0, none⟩ = some (.int .i64 5) := cell_of HB0_0v.out rfl
      have c0_1 : (u0x.alloc (.cells #[.int .i64 5, .int .i64 0, .string { data := #[108, 101, 116] }, .int .i64 0, .int .i64 0] 23)).cell? ⟨u0x.heap.size, 1, none⟩ = some (.int .i64 0) := cell_of HB0_0v.out rfl
      have c0_2 : (u0x.alloc (.cells #[.int .i64 5, .int .i64 0, .string { data := #[108, 101, 116] }, .int .i64 0, .int .i64 0] 23)).cell? ⟨u0x.heap.size, 2, none⟩ = some (.string { data := #[108, 101, 116] }) := cell_of HB0_0v.out rfl
      have c0_3 : (u0x.alloc (.cells #[.int .i64 5, .int .i64 0, .string { data := #[108, 101, 116] }, .int .i64 0, .int .i64 0] 23)).cell? ⟨u0x.heap.size, 3, none⟩ = some (.int .i64 0) := cell_of HB0_0v.out rfl
      have c0_4 : (u0x.alloc (.cells #[.int .i64 5, .int .i64 0, .string { data := #[108, 101, 116] }, .int .i64 0, .int .i64 0] 23)).cell? ⟨u0x.heap.size, 4, none⟩ = some (.int .i64 0) := cell_of HB0_0v.out rfl
      clear HB0_0v
      go_wp2_with fail
      go_ret
      exact ⟨rfl, HK1.out⟩
end Go.Proofs.YtleenphlgbklmabGreatDoor

namespace Go.Proofs.YtleenphlgbklmabGreatDoor
open Go.RowKit

set_option maxRecDepth 20000 in
set_option maxHeartbeats 4000000 in
theorem ref_4 {A : Nat → Addr} (c : Int) (w : World) (hG : Glb A w) (HP : Hid (∀ W, Calls Tryz.prog 11 #[.int .i64 c, .int .i64 63] W fun e w' => e = .returned (.int .i64 59) ∧ w' = W)) : Calls Tryz.prog 7 #[.int .i64 c] w fun e w' => e = .returned (.bool true) ∧ Kept w w' := by
  have hk1 : Kept w (w.alloc (.cells fltC 51)) := Kept.alloc _ _
  have HLS : Hid (Calls Tryz.prog 18 #[] w fun e w' => e = .returned (.slice (some ⟨w.heap.size, 0, none⟩) 55 55) ∧ w' = w.alloc (.cells fltC 51)) := faults_sx w
  generalize w.alloc (.cells fltC 51) = W at *
  have HK0 : Hid _ := hk1
  have HG0 : Hid _ := hG.kept hk1
  clear hk1 hG
  go_enter Tryz.func7, Tryz.ntmps7
  go_wp2_with fail
  refine Calls.mono HLS.out ?_
  rintro e w1 ⟨rfl, hww⟩
  rw [hww]
  clear hww w1 HLS
  go_wp2_with fail
  refine Calls.mono (HP.out _) ?_
  rintro e w1 ⟨rfl, hww⟩
  rw [hww]
  clear hww w1 HP
  go_wp2_with fail
  go_loopw [9] (fun s wr => ∃ k : Nat, k ≤ 301 ∧ s = .string (lx k) ∧ wr = W) (fun s _ => 301 - strN s)
  case atStart => exact ⟨0, by omega, rfl, rfl⟩
  case round =>
    obtain ⟨k, hk, rfl, hw⟩ := hrel
    rw [hw]
    clear hw
    have hz := lx_size k
    by_cases hlt : k ≤ 300
    · have HE : Hid _ := lx_snoc k
      have hz2 := lx_size (k + 1)
      clear HK0 HG0
      go_wp2
      go_roundw
      case measure =>
        rw [← HE.out]
        simp only [strN, hz, hz2]
        omega
      case rel => exact ⟨k + 1, by omega, by rw [HE.out], trivial⟩
    · obtain rfl : k = 301 := by omega
      generalize lx 301 = L at *
      go_wp2_with fail
      refine Calls.mono (inf_rows (w := W) [({ data := #[120] }, L)] (m := 1) rfl (by omega) (by simp) rfl rfl (fun V hk => hi_four hz ((HG0.out).kept hk))) ?_
      rintro e u0x ⟨rfl, hkc⟩
      have hk0a : Kept u0x (u0x.alloc (.cells #[.int .i64 5, .int .i64 0, .string { data := #[120] }, .int .i64 1, .int .i64 0] 23)) := Kept.alloc _ _
      have hb0a := heap_alloc_new u0x (.cells #[.int .i64 5, .int .i64 0, .string { data := #[120] }, .int .i64 1, .int .i64 0] 23)
      have HK1 : Hid _ := (HK0.out.trans hkc).trans hk0a
      have HG1 : Hid _ := (HG0.out.kept hkc).kept hk0a
      have HB0_0v : Hid _ := hb0a
      clear hkc hk0a hb0a HK0 HG0 
      try unfold faultVal
      try unfold faultV5
      have c0_0 : (u0x.alloc (.cells #[.int .i64 5, .int .i64 0, .string { data := #[120] }, .int .i64 1, .int .i64 0] 23)).cell? ⟨u0x.heap.size, 0, none⟩ = some (.int .i64 5) := cell_of HB0_0v.out rfl
      have c0_1 : (u0x.alloc (.cells #[.int .i64 5, .int .i64 0, .string { data := #[120] }, .int .i64 1, .int .i64 0] 23)).cell? ⟨u0x.heap.size, 1, none⟩ = some (.int .i64 0) := cell_of HB0_0v.out rfl
      have c0_2 : (u0x.alloc (.cells #[.int .i64 5, .int .i64 0, .string { data := #[120] }, .int .i64 1, .int .i64 0] 23)).cell? ⟨u0x.heap.size, 2, none⟩ = some (.string { data := #[120] }) := cell_of HB0_0v.out rfl
      have c0_3 : (u0x.alloc (.cells #[.int .i64 5, .int .i64 0, .string { data := #[120] }, .int .i64 1, .int .i64 0] 23)).cell? ⟨u0x.heap.size, 3, none⟩ = some (.int .i64 1) := cell_of HB0_0v.out rfl
      have c0_4 : (u0x.alloc (.cells #[.int .i64 5, .int .i64 0, .string { data := #[120] }, .int .i64 1, .int .i64 0] 23)).cell? ⟨u0x.heap.size, 4, none⟩ = some (.int .i64 0) := cell_of HB0_0v.out rfl
      clear HB0_0v
      go_wp2_with fail
      go_ret
      exact ⟨rfl, HK1.out⟩
end Go.Proofs.YtleenphlgbklmabGreatDoor

namespace Go.Proofs.YtleenphlgbklmabGreatDoor
open Go.RowKit

set_option maxRecDepth 20000 in
set_option maxHeartbeats 4000000 in
theorem ref_5 {A : Nat → Addr} (c : Int) (w : World) (hG : Glb A w) (HP : Hid (∀ W, Calls Tryz.prog 11 #[.int .i64 c, .int .i64 63] W fun e w' => e = .returned (.int .i64 60) ∧ w' = W)) : Calls Tryz.prog 7 #[.int .i64 c] w fun e w' => e = .returned (.bool true) ∧ Kept w w' := by
  have hk1 : Kept w (w.alloc (.cells fltC 51)) := Kept.alloc _ _
  have HLS : Hid (Calls Tryz.prog 18 #[] w fun e w' => e = .returned (.slice (some ⟨w.heap.size, 0, none⟩) 55 55) ∧ w' = w.alloc (.cells fltC 51)) := faults_sx w
  generalize w.alloc (.cells fltC 51) = W at *
  have HK0 : Hid _ := hk1
  have HG0 : Hid _ := hG.kept hk1
  clear hk1 hG
  go_enter Tryz.func7, Tryz.ntmps7
  go_wp2_with fail
  refine Calls.mono HLS.out ?_
  rintro e w1 ⟨rfl, hww⟩
  rw [hww]
  clear hww w1 HLS
  go_wp2_with fail
  refine Calls.mono (HP.out _) ?_
  rintro e w1 ⟨rfl, hww⟩
  rw [hww]
  clear hww w1 HP
  go_wp2_with fail
  go_loopw [9] (fun s wr => ∃ k : Nat, k ≤ 301 ∧ s = .string (lx k) ∧ wr = W) (fun s _ => 301 - strN s)
  case atStart => exact ⟨0, by omega, rfl, rfl⟩
  case round =>
    obtain ⟨k, hk, rfl, hw⟩ := hrel
    rw [hw]
    clear hw
    have hz := lx_size k
    by_cases hlt : k ≤ 300
    · have HE : Hid _ := lx_snoc k
      have hz2 := lx_size (k + 1)
      clear HK0 HG0
      go_wp2
      go_roundw
      case measure =>
        rw [← HE.out]
        simp only [strN, hz, hz2]
        omega
      case rel => exact ⟨k + 1, by omega, by rw [HE.out], trivial⟩
    · obtain rfl : k = 301 := by omega
      generalize lx 301 = L at *
      go_wp2_with fail
      refine Calls.mono (inst_at (s := { data := #[97, 32, 45, 62, 32, 97] }) (z := { data := #[105, 110, 116, 32, 45, 62, 32, 98, 111, 111, 108] }) (show _ = (0, true, 11, 0) by kernel_rfl) W HG0.out (by decide) (by decide)) ?_
      rintro e u0x ⟨la0, lc0, ta0, tc0, rfl, hkc, HR0⟩
      have hk0a : Kept u0x (u0x.alloc (.cells #[.int .i64 11, .int .i64 0, .string { data := #[] }, .int .i64 0, .int .i64 0] 23)) := Kept.alloc _ _
      have hb0a := heap_alloc_new u0x (.cells #[.int .i64 11, .int .i64 0, .string { data := #[] }, .int .i64 0, .int .i64 0] 23)
      have HK1 : Hid _ := (HK0.out.trans hkc).trans hk0a
      have HG1 : Hid _ := (HG0.out.kept hkc).kept hk0a
      have HB0_0v : Hid _ := hb0a
      clear hkc hk0a hb0a HK0 HG0 
      try unfold faultVal
      try unfold faultV5
      go_wp2_with fail
      generalize (u0x.alloc (.cells #[.int .i64 11, .int .i64 0, .string { data := #[] }, .int .i64 0, .int .i64 0] 23)) = V0 at *
      generalize u0x.heap.size = fb0 at *
      refine Calls.mono (inst_at (s := { data := #[40, 97, 44, 32, 98, 41] }) (z := { data := #[91, 105, 110, 116, 93] }) (show _ = (0, true, 11, 0) by kernel_rfl) V0 HG1.out (by decide) (by decide)) ?_
      rintro e u1x ⟨la1, lc1, ta1, tc1, rfl, hkc, HR1⟩
      have HB0_1 : Hid _ := hkc.blk HB0_0v.out
      have hk1a : Kept u1x (u1x.alloc (.cells #[.int .i64 11, .int .i64 0, .string { data := #[] }, .int .i64 0, .int .i64 0] 23)) := Kept.alloc _ _
      have hb1a := heap_alloc_new u1x (.cells #[.int .i64 11, .int .i64 0, .string { data := #[] }, .int .i64 0, .int .i64 0] 23)
      have HK2 : Hid _ := (HK1.out.trans hkc).trans hk1a
      have HG2 : Hid _ := (HG1.out.kept hkc).kept hk1a
      have HB0_1v : Hid _ := hk1a.blk HB0_1.out
      have HB1_1v : Hid _ := hb1a
      clear hkc hk1a hb1a HK1 HG1 HB0_1 HB0_0v
      try unfold faultVal
      try unfold faultV5
      go_wp2_with fail
      generalize (u1x.alloc (.cells #[.int .i64 11, .int .i64 0, .string { data := #[] }, .int .i64 0, .int .i64 0] 23)) = V1 at *
      generalize u1x.heap.size = fb1 at *
      refine Calls.mono (inst_at (s := { data := #[105, 110, 116] }) (z := { data := #[97] }) (show _ = (0, true, 11, 0) by kernel_rfl) V1 HG2.out (by decide) (by decide)) ?_
      rintro e u2x ⟨la2, lc2, ta2, tc2, rfl, hkc, HR2⟩
      have HB0_2 : Hid _ := hkc.blk HB0_1v.out
      have HB1_2 : Hid _ := hkc.blk HB1_1v.out
      have hk2a : Kept u2x (u2x.alloc (.cells #[.int .i64 11, .int .i64 0, .string { data := #[] }, .int .i64 0, .int .i64 0] 23)) := Kept.alloc _ _
      have hb2a := heap_alloc_new u2x (.cells #[.int .i64 11, .int .i64 0, .string { data := #[] }, .int .i64 0, .int .i64 0] 23)
      have HK3 : Hid _ := (HK2.out.trans hkc).trans hk2a
      have HG3 : Hid _ := (HG2.out.kept hkc).kept hk2a
      have HB0_2v : Hid _ := hk2a.blk HB0_2.out
      have HB1_2v : Hid _ := hk2a.blk HB1_2.out
      have HB2_2v : Hid _ := hb2a
      clear hkc hk2a hb2a HK2 HG2 HB0_2 HB0_1v HB1_2 HB1_1v
      try unfold faultVal
      try unfold faultV5
      have c0_0 : (u2x.alloc (.cells #[.int .i64 11, .int .i64 0, .string { data := #[] }, .int .i64 0, .int .i64 0] 23)).cell? ⟨fb0, 0, none⟩ = some (.int .i64 11) := cell_of HB0_2v.out rfl
      have c0_1 : (u2x.alloc (.cells #[.int .i64 11, .int .i64 0, .string { data := #[] }, .int .i64 0, .int .i64 0] 23)).cell? ⟨fb0, 1, none⟩ = some (.int .i64 0) := cell_of HB0_2v.out rfl
      have c0_2 : (u2x.alloc (.cells #[.int .i64 11, .int .i64 0, .string { data := #[] }, .int .i64 0, .int .i64 0] 23)).cell? ⟨fb0, 2, none⟩ = some (.string { data := #[] }) := cell_of HB0_2v.out rfl
      have c0_3 : (u2x.alloc (.cells #[.int .i64 11, .int .i64 0, .string { data := #[] }, .int .i64 0, .int .i64 0] 23)).cell? ⟨fb0, 3, none⟩ = some (.int .i64 0) := cell_of HB0_2v.out rfl
      have c0_4 : (u2x.alloc (.cells #[.int .i64 11, .int .i64 0, .string { data := #[] }, .int .i64 0, .int .i64 0] 23)).cell? ⟨fb0, 4, none⟩ = some (.int .i64 0) := cell_of HB0_2v.out rfl
      have c1_0 : (u2x.alloc (.cells #[.int .i64 11, .int .i64 0, .string { data := #[] }, .int .i64 0, .int .i64 0] 23)).cell? ⟨fb1, 0, none⟩ = some (.int .i64 11) := cell_of HB1_2v.out rfl
      have c1_1 : (u2x.alloc (.cells #[.int .i64 11, .int .i64 0, .string { data := #[] }, .int .i64 0, .int .i64 0] 23)).cell? ⟨fb1, 1, none⟩ = some (.int .i64 0) := cell_of HB1_2v.out rfl
      have c1_2 : (u2x.alloc (.cells #[.int .i64 11, .int .i64 0, .string { data := #[] }, .int .i64 0, .int .i64 0] 23)).cell? ⟨fb1, 2, none⟩ = some (.string { data := #[] }) := cell_of HB1_2v.out rfl
      have c1_3 : (u2x.alloc (.cells #[.int .i64 11, .int .i64 0, .string { data := #[] }, .int .i64 0, .int .i64 0] 23)).cell? ⟨fb1, 3, none⟩ = some (.int .i64 0) := cell_of HB1_2v.out rfl
      have c1_4 : (u2x.alloc (.cells #[.int .i64 11, .int .i64 0, .string { data := #[] }, .int .i64 0, .int .i64 0] 23)).cell? ⟨fb1, 4, none⟩ = some (.int .i64 0) := cell_of HB1_2v.out rfl
      have c2_0 : (u2x.alloc (.cells #[.int .i64 11, .int .i64 0, .string { data := #[] }, .int .i64 0, .int .i64 0] 23)).cell? ⟨u2x.heap.size, 0, none⟩ = some (.int .i64 11) := cell_of HB2_2v.out rfl
      have c2_1 : (u2x.alloc (.cells #[.int .i64 11, .int .i64 0, .string { data := #[] }, .int .i64 0, .int .i64 0] 23)).cell? ⟨u2x.heap.size, 1, none⟩ = some (.int .i64 0) := cell_of HB2_2v.out rfl
      have c2_2 : (u2x.alloc (.cells #[.int .i64 11, .int .i64 0, .string { data := #[] }, .int .i64 0, .int .i64 0] 23)).cell? ⟨u2x.heap.size, 2, none⟩ = some (.string { data := #[] }) := cell_of HB2_2v.out rfl
      have c2_3 : (u2x.alloc (.cells #[.int .i64 11, .int .i64 0, .string { data := #[] }, .int .i64 0, .int .i64 0] 23)).cell? ⟨u2x.heap.size, 3, none⟩ = some (.int .i64 0) := cell_of HB2_2v.out rfl
      have c2_4 : (u2x.alloc (.cells #[.int .i64 11, .int .i64 0, .string { data := #[] }, .int .i64 0, .int .i64 0] 23)).cell? ⟨u2x.heap.size, 4, none⟩ = some (.int .i64 0) := cell_of HB2_2v.out rfl
      clear HB0_2v HB1_2v HB2_2v
      go_wp2_with fail
      go_ret
      exact ⟨rfl, HK3.out⟩
end Go.Proofs.YtleenphlgbklmabGreatDoor

namespace Go.Proofs.YtleenphlgbklmabGreatDoor
open Go.RowKit

set_option maxRecDepth 20000 in
set_option maxHeartbeats 4000000 in
theorem ref_6 {A : Nat → Addr} (c : Int) (w : World) (hG : Glb A w) (HP : Hid (∀ W, Calls Tryz.prog 11 #[.int .i64 c, .int .i64 63] W fun e w' => e = .returned (.int .i64 61) ∧ w' = W)) : Calls Tryz.prog 7 #[.int .i64 c] w fun e w' => e = .returned (.bool true) ∧ Kept w w' := by
  have hk1 : Kept w (w.alloc (.cells fltC 51)) := Kept.alloc _ _
  have HLS : Hid (Calls Tryz.prog 18 #[] w fun e w' => e = .returned (.slice (some ⟨w.heap.size, 0, none⟩) 55 55) ∧ w' = w.alloc (.cells fltC 51)) := faults_sx w
  generalize w.alloc (.cells fltC 51) = W at *
  have HK0 : Hid _ := hk1
  have HG0 : Hid _ := hG.kept hk1
  clear hk1 hG
  go_enter Tryz.func7, Tryz.ntmps7
  go_wp2_with fail
  refine Calls.mono HLS.out ?_
  rintro e w1 ⟨rfl, hww⟩
  rw [hww]
  clear hww w1 HLS
  go_wp2_with fail
  refine Calls.mono (HP.out _) ?_
  rintro e w1 ⟨rfl, hww⟩
  rw [hww]
  clear hww w1 HP
  go_wp2_with fail
  go_loopw [9] (fun s wr => ∃ k : Nat, k ≤ 301 ∧ s = .string (lx k) ∧ wr = W) (fun s _ => 301 - strN s)
  case atStart => exact ⟨0, by omega, rfl, rfl⟩
  case round =>
    obtain ⟨k, hk, rfl, hw⟩ := hrel
    rw [hw]
    clear hw
    have hz := lx_size k
    by_cases hlt : k ≤ 300
    · have HE : Hid _ := lx_snoc k
      have hz2 := lx_size (k + 1)
      clear HK0 HG0
      go_wp2
      go_roundw
      case measure =>
        rw [← HE.out]
        simp only [strN, hz, hz2]
        omega
      case rel => exact ⟨k + 1, by omega, by rw [HE.out], trivial⟩
    · obtain rfl : k = 301 := by omega
      generalize lx 301 = L at *
      go_wp2_with fail
      refine Calls.mono (inst_two (s := { data := #[97, 32, 45, 62, 32, 98, 32, 45, 62, 32, 91, 97, 93] }) (z := { data := #[40, 120, 44, 32, 121, 41, 32, 45, 62, 32, 105, 110, 116, 32, 45, 62, 32, 91, 40, 120, 44, 32, 121, 41, 93] }) (P := { data := #[97] }) (Q := { data := #[98] }) (x := { data := #[40, 120, 44, 32, 121, 41] }) (y := { data := #[105, 110, 116] }) (by kernel_rfl) (by kernel_rfl) (by kernel_rfl) (by kernel_rfl) (by kernel_rfl) (by kernel_rfl) (by kernel_rfl) (by kernel_rfl) (by decide) (by rw [ByteArray.toList_eq, ByteArray.toList_eq]; rfl) (by kernel_rfl) W HG0.out (by decide) (by decide)) ?_
      rintro e u0x ⟨g, lc, g', tc, rfl, hkc, m0, m1, t0, t1⟩
      have hk0a : Kept u0x (u0x.alloc (.cells #[.int .i64 0, .int .i64 0, .string { data := #[] }, .int .i64 0, .int .i64 0] 23)) := Kept.alloc _ _
      have hb0a := heap_alloc_new u0x (.cells #[.int .i64 0, .int .i64 0, .string { data := #[] }, .int .i64 0, .int .i64 0] 23)
      have HK1 : Hid _ := (HK0.out.trans hkc).trans hk0a
      have HG1 : Hid _ := (HG0.out.kept hkc).kept hk0a
      have HB0_0v : Hid _ := hb0a
      have m0 := hk0a.cell m0
      have m1 := hk0a.cell m1
      have t0 := hk0a.cell t0
      have t1 := hk0a.cell t1
      clear hkc hk0a hb0a HK0 HG0 
      try unfold faultVal
      try unfold faultV5
      go_wp2_with fail
      generalize (u0x.alloc (.cells #[.int .i64 0, .int .i64 0, .string { data := #[] }, .int .i64 0, .int .i64 0] 23)) = V0 at *
      generalize u0x.heap.size = fb0 at *
      refine Calls.mono (inst_at (s := { data := #[105, 110, 116] }) (z := { data := #[105, 110, 116] }) (show _ = (0, false, 0, 0) by kernel_rfl) V0 HG1.out (by decide) (by decide)) ?_
      rintro e u1x ⟨la1, lc1, ta1, tc1, rfl, hkc, HR1⟩
      have m0 := hkc.cell m0
      have m1 := hkc.cell m1
      have t0 := hkc.cell t0
      have t1 := hkc.cell t1
      have HB0_1 : Hid _ := hkc.blk HB0_0v.out
      have hk1a : Kept u1x (u1x.alloc (.cells #[.int .i64 0, .int .i64 0, .string { data := #[] }, .int .i64 0, .int .i64 0] 23)) := Kept.alloc _ _
      have hb1a := heap_alloc_new u1x (.cells #[.int .i64 0, .int .i64 0, .string { data := #[] }, .int .i64 0, .int .i64 0] 23)
      have HK2 : Hid _ := (HK1.out.trans hkc).trans hk1a
      have HG2 : Hid _ := (HG1.out.kept hkc).kept hk1a
      have HB0_1v : Hid _ := hk1a.blk HB0_1.out
      have HB1_1v : Hid _ := hb1a
      have m0 := hk1a.cell m0
      have m1 := hk1a.cell m1
      have t0 := hk1a.cell t0
      have t1 := hk1a.cell t1
      clear hkc hk1a hb1a HK1 HG1 HB0_1 HB0_0v
      try unfold faultVal
      try unfold faultV5
      have c0_0 : (u1x.alloc (.cells #[.int .i64 0, .int .i64 0, .string { data := #[] }, .int .i64 0, .int .i64 0] 23)).cell? ⟨fb0, 0, none⟩ = some (.int .i64 0) := cell_of HB0_1v.out rfl
      have c0_1 : (u1x.alloc (.cells #[.int .i64 0, .int .i64 0, .string { data := #[] }, .int .i64 0, .int .i64 0] 23)).cell? ⟨fb0, 1, none⟩ = some (.int .i64 0) := cell_of HB0_1v.out rfl
      have c0_2 : (u1x.alloc (.cells #[.int .i64 0, .int .i64 0, .string { data := #[] }, .int .i64 0, .int .i64 0] 23)).cell? ⟨fb0, 2, none⟩ = some (.string { data := #[] }) := cell_of HB0_1v.out rfl
      have c0_3 : (u1x.alloc (.cells #[.int .i64 0, .int .i64 0, .string { data := #[] }, .int .i64 0, .int .i64 0] 23)).cell? ⟨fb0, 3, none⟩ = some (.int .i64 0) := cell_of HB0_1v.out rfl
      have c0_4 : (u1x.alloc (.cells #[.int .i64 0, .int .i64 0, .string { data := #[] }, .int .i64 0, .int .i64 0] 23)).cell? ⟨fb0, 4, none⟩ = some (.int .i64 0) := cell_of HB0_1v.out rfl
      have c1_0 : (u1x.alloc (.cells #[.int .i64 0, .int .i64 0, .string { data := #[] }, .int .i64 0, .int .i64 0] 23)).cell? ⟨u1x.heap.size, 0, none⟩ = some (.int .i64 0) := cell_of HB1_1v.out rfl
      have c1_1 : (u1x.alloc (.cells #[.int .i64 0, .int .i64 0, .string { data := #[] }, .int .i64 0, .int .i64 0] 23)).cell? ⟨u1x.heap.size, 1, none⟩ = some (.int .i64 0) := cell_of HB1_1v.out rfl
      have c1_2 : (u1x.alloc (.cells #[.int .i64 0, .int .i64 0, .string { data := #[] }, .int .i64 0, .int .i64 0] 23)).cell? ⟨u1x.heap.size, 2, none⟩ = some (.string { data := #[] }) := cell_of HB1_1v.out rfl
      have c1_3 : (u1x.alloc (.cells #[.int .i64 0, .int .i64 0, .string { data := #[] }, .int .i64 0, .int .i64 0] 23)).cell? ⟨u1x.heap.size, 3, none⟩ = some (.int .i64 0) := cell_of HB1_1v.out rfl
      have c1_4 : (u1x.alloc (.cells #[.int .i64 0, .int .i64 0, .string { data := #[] }, .int .i64 0, .int .i64 0] 23)).cell? ⟨u1x.heap.size, 4, none⟩ = some (.int .i64 0) := cell_of HB1_1v.out rfl
      clear HB0_1v HB1_1v
      go_wp2_with fail
      go_ret
      exact ⟨rfl, HK2.out⟩
end Go.Proofs.YtleenphlgbklmabGreatDoor

namespace Go.Proofs.YtleenphlgbklmabGreatDoor
open Go.RowKit

set_option maxRecDepth 20000 in
set_option maxHeartbeats 4000000 in
theorem ref_7 {A : Nat → Addr} (c : Int) (w : World) (hG : Glb A w) (HP : Hid (∀ W, Calls Tryz.prog 11 #[.int .i64 c, .int .i64 63] W fun e w' => e = .returned (.int .i64 62) ∧ w' = W)) : Calls Tryz.prog 7 #[.int .i64 c] w fun e w' => e = .returned (.bool true) ∧ Kept w w' := by
  have hk1 : Kept w (w.alloc (.cells fltC 51)) := Kept.alloc _ _
  have HLS : Hid (Calls Tryz.prog 18 #[] w fun e w' => e = .returned (.slice (some ⟨w.heap.size, 0, none⟩) 55 55) ∧ w' = w.alloc (.cells fltC 51)) := faults_sx w
  generalize w.alloc (.cells fltC 51) = W at *
  have HK0 : Hid _ := hk1
  have HG0 : Hid _ := hG.kept hk1
  clear hk1 hG
  go_enter Tryz.func7, Tryz.ntmps7
  go_wp2_with fail
  refine Calls.mono HLS.out ?_
  rintro e w1 ⟨rfl, hww⟩
  rw [hww]
  clear hww w1 HLS
  go_wp2_with fail
  refine Calls.mono (HP.out _) ?_
  rintro e w1 ⟨rfl, hww⟩
  rw [hww]
  clear hww w1 HP
  go_wp2_with fail
  go_loopw [9] (fun s wr => ∃ k : Nat, k ≤ 301 ∧ s = .string (lx k) ∧ wr = W) (fun s _ => 301 - strN s)
  case atStart => exact ⟨0, by omega, rfl, rfl⟩
  case round =>
    obtain ⟨k, hk, rfl, hw⟩ := hrel
    rw [hw]
    clear hw
    have hz := lx_size k
    by_cases hlt : k ≤ 300
    · have HE : Hid _ := lx_snoc k
      have hz2 := lx_size (k + 1)
      clear HK0 HG0
      go_wp2
      go_roundw
      case measure =>
        rw [← HE.out]
        simp only [strN, hz, hz2]
        omega
      case rel => exact ⟨k + 1, by omega, by rw [HE.out], trivial⟩
    · obtain rfl : k = 301 := by omega
      generalize lx 301 = L at *
      go_wp2_with fail
      refine Calls.mono (inst_at (s := { data := #[40] }) (z := { data := #[41] }) (show _ = (0, true, 2, 1) by kernel_rfl) W HG0.out (by decide) (by decide)) ?_
      rintro e u0x ⟨la0, lc0, ta0, tc0, rfl, hkc, HR0⟩
      have hk0a : Kept u0x (u0x.alloc (.cells #[.int .i64 2, .int .i64 1, .string { data := #[] }, .int .i64 0, .int .i64 0] 23)) := Kept.alloc _ _
      have hb0a := heap_alloc_new u0x (.cells #[.int .i64 2, .int .i64 1, .string { data := #[] }, .int .i64 0, .int .i64 0] 23)
      have HK1 : Hid _ := (HK0.out.trans hkc).trans hk0a
      have HG1 : Hid _ := (HG0.out.kept hkc).kept hk0a
      have HB0_0v : Hid _ := hb0a
      clear hkc hk0a hb0a HK0 HG0 
      try unfold faultVal
      try unfold faultV5
      go_wp2_with fail
      generalize (u0x.alloc (.cells #[.int .i64 2, .int .i64 1, .string { data := #[] }, .int .i64 0, .int .i64 0] 23)) = V0 at *
      generalize u0x.heap.size = fb0 at *
      refine Calls.mono (inst_at (s := { data := #[97] }) (z := { data := #[41] }) (show _ = (0, true, 2, 0) by kernel_rfl) V0 HG1.out (by decide) (by decide)) ?_
      rintro e u1x ⟨la1, lc1, ta1, tc1, rfl, hkc, HR1⟩
      have HB0_1 : Hid _ := hkc.blk HB0_0v.out
      have hk1a : Kept u1x (u1x.alloc (.cells #[.int .i64 2, .int .i64 0, .string { data := #[] }, .int .i64 0, .int .i64 0] 23)) := Kept.alloc _ _
      have hb1a := heap_alloc_new u1x (.cells #[.int .i64 2, .int .i64 0, .string { data := #[] }, .int .i64 0, .int .i64 0] 23)
      have HK2 : Hid _ := (HK1.out.trans hkc).trans hk1a
      have HG2 : Hid _ := (HG1.out.kept hkc).kept hk1a
      have HB0_1v : Hid _ := hk1a.blk HB0_1.out
      have HB1_1v : Hid _ := hb1a
      clear hkc hk1a hb1a HK1 HG1 HB0_1 HB0_0v
      try unfold faultVal
      try unfold faultV5
      have c0_0 : (u1x.alloc (.cells #[.int .i64 2, .int .i64 0, .string { data := #[] }, .int .i64 0, .int .i64 0] 23)).cell? ⟨fb0, 0, none⟩ = some (.int .i64 2) := cell_of HB0_1v.out rfl
      have c0_1 : (u1x.alloc (.cells #[.int .i64 2, .int .i64 0, .string { data := #[] }, .int .i64 0, .int .i64 0] 23)).cell? ⟨fb0, 1, none⟩ = some (.int .i64 1) := cell_of HB0_1v.out rfl
      have c0_2 : (u1x.alloc (.cells #[.int .i64 2, .int .i64 0, .string { data := #[] }, .int .i64 0, .int .i64 0] 23)).cell? ⟨fb0, 2, none⟩ = some (.string { data := #[] }) := cell_of HB0_1v.out rfl
      have c0_3 : (u1x.alloc (.cells #[.int .i64 2, .int .i64 0, .string { data := #[] }, .int .i64 0, .int .i64 0] 23)).cell? ⟨fb0, 3, none⟩ = some (.int .i64 0) := cell_of HB0_1v.out rfl
      have c0_4 : (u1x.alloc (.cells #[.int .i64 2, .int .i64 0, .string { data := #[] }, .int .i64 0, .int .i64 0] 23)).cell? ⟨fb0, 4, none⟩ = some (.int .i64 0) := cell_of HB0_1v.out rfl
      have c1_0 : (u1x.alloc (.cells #[.int .i64 2, .int .i64 0, .string { data := #[] }, .int .i64 0, .int .i64 0] 23)).cell? ⟨u1x.heap.size, 0, none⟩ = some (.int .i64 2) := cell_of HB1_1v.out rfl
      have c1_1 : (u1x.alloc (.cells #[.int .i64 2, .int .i64 0, .string { data := #[] }, .int .i64 0, .int .i64 0] 23)).cell? ⟨u1x.heap.size, 1, none⟩ = some (.int .i64 0) := cell_of HB1_1v.out rfl
      have c1_2 : (u1x.alloc (.cells #[.int .i64 2, .int .i64 0, .string { data := #[] }, .int .i64 0, .int .i64 0] 23)).cell? ⟨u1x.heap.size, 2, none⟩ = some (.string { data := #[] }) := cell_of HB1_1v.out rfl
      have c1_3 : (u1x.alloc (.cells #[.int .i64 2, .int .i64 0, .string { data := #[] }, .int .i64 0, .int .i64 0] 23)).cell? ⟨u1x.heap.size, 3, none⟩ = some (.int .i64 0) := cell_of HB1_1v.out rfl
      have c1_4 : (u1x.alloc (.cells #[.int .i64 2, .int .i64 0, .string { data := #[] }, .int .i64 0, .int .i64 0] 23)).cell? ⟨u1x.heap.size, 4, none⟩ = some (.int .i64 0) := cell_of HB1_1v.out rfl
      clear HB0_1v HB1_1v
      go_wp2_with fail
      go_ret
      exact ⟨rfl, HK2.out⟩
end Go.Proofs.YtleenphlgbklmabGreatDoor

namespace Go.Proofs.YtleenphlgbklmabGreatDoor
open Go.RowKit

theorem refuses_any {A : Nat → Addr} (c : Int) (w : World) (hG : Glb A w) (h1 : -9223372036854775808 ≤ c) (h2 : c ≤ 9223372036854775807) : Calls Tryz.prog 7 #[.int .i64 c] w fun e w' => e = .returned (.bool true) ∧ Kept w w' := by
  obtain ⟨j, hk, hj⟩ : ∃ j : Nat, pickI c 63 = j ∧ j < 63 := by
    have := pickI_lt c 63 (by omega)
    exact ⟨(pickI c 63).toNat, by omega, by omega⟩
  have HP : Hid (∀ W, Calls Tryz.prog 11 #[.int .i64 c, .int .i64 63] W fun e w' => e = .returned (.int .i64 j) ∧ w' = W) := fun W => by
    have := pick_sx c 63 W h1 h2 (by omega) (by omega)
    rwa [hk] at this
  by_cases hlt : j < 55
  · exact ref_low c j hlt w hG HP
  · have : j = 55 ∨ j = 56 ∨ j = 57 ∨ j = 58 ∨ j = 59 ∨ j = 60 ∨ j = 61 ∨ j = 62 := by omega
    rcases this with rfl | rfl | rfl | rfl | rfl | rfl | rfl | rfl
    · exact ref_0 c w hG HP
    · exact ref_1 c w hG HP
    · exact ref_2 c w hG HP
    · exact ref_3 c w hG HP
    · exact ref_4 c w hG HP
    · exact ref_5 c w hG HP
    · exact ref_6 c w hG HP
    · exact ref_7 c w hG HP
end Go.Proofs.YtleenphlgbklmabGreatDoor
