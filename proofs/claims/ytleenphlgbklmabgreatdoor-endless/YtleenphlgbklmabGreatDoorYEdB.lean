import Derived.Test.YtleenphlgbklmabGreatDoorYEdA
set_option linter.unusedVariables false
set_option linter.unusedSimpArgs false
namespace Go.Proofs.YtleenphlgbklmabGreatDoor
open Go.RowKit

theorem en_rd {W : World} {g m : Nat} {ps : List Rpt} (h : Rds W g (enO m) ps) (hl : ps.length = m) (q : Nat) (hq : q < m) : ∃ p0 p1 p2 p3, W.cell? ⟨g, q * 3, none⟩ = some (.slice (some ⟨p0, 0, none⟩) 1 p1) ∧ W.cell? ⟨g, q * 3 + 1, none⟩ = some (.int .i64 ((q : Int) + 1)) ∧ W.cell? ⟨g, q * 3 + 2, none⟩ = some (.slice (some ⟨p2, 0, none⟩) 1 p3) ∧ W.cell? ⟨p2, 0, none⟩ = some (.string (enW (q + 1))) := by
  have hjo : q < (enO m).length := by rw [enO_len]; exact hq
  have hjp : q < ps.length := by rw [hl]; exact hq
  have a0 := h.a0 q hjo hjp
  have a1 := h.a1 q hjo hjp
  have a2 := h.a2 q hjo hjp
  have a3 := (h.n2 q hjo hjp).cell 0 (by rw [enO_get]; simp)
  simp only [enO_get] at a0 a1 a2 a3
  rw [Nat.mul_comm q 3]
  exact ⟨_, _, _, _, a0, a1, a2, a3⟩
set_option maxRecDepth 20000 in
set_option maxHeartbeats 4000000 in
theorem endless_any {A : Nat → Addr} (c d : Int) (w : World) (hG : Glb A w) (h1 : -9223372036854775808 ≤ c) (h2 : c ≤ 9223372036854775807) (h3 : -9223372036854775808 ≤ d) (h4 : d ≤ 9223372036854775807) : Calls Tryz.prog 5 #[.int .i64 c, .int .i64 d] w fun e w' => e = .returned (.bool true) ∧ Kept w w' := by
  obtain ⟨f, hf, hfl⟩ : ∃ f : Nat, pickI c 12 = f ∧ f < 12 := by
    have := pickI_lt c 12 (by omega)
    exact ⟨(pickI c 12).toNat, by omega, by omega⟩
  obtain ⟨stop, hs, hsl⟩ : ∃ f : Nat, pickI d 15 = f ∧ f < 15 := by
    have := pickI_lt d 15 (by omega)
    exact ⟨(pickI d 15).toNat, by omega, by omega⟩
  have HP : Hid (∀ W, Calls Tryz.prog 11 #[.int .i64 c, .int .i64 12] W fun e w' => e = .returned (.int .i64 f) ∧ w' = W) := fun W => by
    have := pick_sx c 12 W h1 h2 (by omega) (by omega)
    rwa [hf] at this
  have HQ : Hid (∀ W, Calls Tryz.prog 11 #[.int .i64 d, .int .i64 15] W fun e w' => e = .returned (.int .i64 stop) ∧ w' = W) := fun W => by
    have := pick_sx d 15 W h3 h4 (by omega) (by omega)
    rwa [hs] at this
  have HG : Hid _ := hG
  have HE : Hid _ := en_at (fl := f + 1) (stop := stop) (by omega) (by omega) hsl
  clear hf hs h1 h2 h3 h4 hG
  go_enter Tryz.func5, Tryz.ntmps5
  go_wp2_with fail
  refine Calls.mono (HP.out _) ?_
  rintro e w' ⟨rfl, hww⟩
  rw [hww]
  clear hww w' HP
  go_wp2_with fail
  refine Calls.mono (HQ.out _) ?_
  rintro e w' ⟨rfl, hww⟩
  rw [hww]
  clear hww w' HQ
  have hm1 : 1 ≤ enM (f + 1) stop := by unfold enM; split <;> omega
  have hm2 : enM (f + 1) stop ≤ 14 := by unfold enM; split <;> omega
  have hmw : (0 < stop ∧ stop ≤ f + 1 → enM (f + 1) stop = stop ∧ senNo (enJ (f + 1) stop) = 10) ∧ (¬ (0 < stop ∧ stop ≤ f + 1) → enM (f + 1) stop = f + 1 ∧ senNo (enJ (f + 1) stop) = 9) := ⟨fun h => by simp [enM, enJ, h, senNo], fun h => by simp [enM, enJ, h, senNo]⟩
  have HC : Hid (Calls Tryz.prog 13 #[.string { data := #[108, 101, 116, 32, 114, 101, 99, 32, 102, 32, 61, 32, 102, 117, 110, 32, 120, 32, 45, 62, 32, 102, 32, 105, 110, 32, 102] }, .slice none 0 0, .slice none 0 0, .int .i64 (1 + (f : Int)), .int .i64 stop, .string { data := #[] }] w fun e w' => ∃ g cc ps, e = .returned (.agg #[.slice (some ⟨g, 0, none⟩) (enM (f + 1) stop) cc, .string { data := #[] }, .int .i64 (senNo (enJ (f + 1) stop)), .int .i64 0, .string { data := #[] }, .int .i64 0, .int .i64 0, .bool false, .slice none 0 0, .slice none 0 0]) ∧ enM (f + 1) stop ≤ cc ∧ cc ≤ maxLen ∧ Hid (ps.length = enM (f + 1) stop ∧ Rds w' g (enO (enM (f + 1) stop)) ps ∧ Kept w w')) := by
    rw [show (1 + (f : Int)) = ((f + 1 : Nat) : Int) by omega]
    have := watch_rds HG.out HE.out (fun z => by have := congrArg List.length z; rw [enO_len] at this; simp at this; omega) (by omega) (by omega) (by omega)
    rw [enO_len] at this
    exact this
  clear HE
  generalize hMq : enM (f + 1) stop = m at *
  generalize hWq : senNo (enJ (f + 1) stop) = what at *
  clear hMq hWq
  go_wp2_with fail
  refine Calls.mono HC.out ?_
  rintro e w1 ⟨g, cc, ps, rfl, hc1, hc2, HR⟩
  clear HC
  have hkW : Kept w1 (w1.alloc (.cells #[.slice (some ⟨g, 0, none⟩) m cc, .string { data := #[] }, .int .i64 what, .int .i64 0, .string { data := #[] }, .int .i64 0, .int .i64 0, .bool false, .slice none 0 0, .slice none 0 0] 36)) := Kept.alloc _ _
  have hnW := heap_alloc_new w1 (.cells #[.slice (some ⟨g, 0, none⟩) m cc, .string { data := #[] }, .int .i64 what, .int .i64 0, .string { data := #[] }, .int .i64 0, .int .i64 0, .bool false, .slice none 0 0, .slice none 0 0] 36)
  go_wp2_with fail
  generalize w1.alloc (.cells #[.slice (some ⟨g, 0, none⟩) m cc, .string { data := #[] }, .int .i64 what, .int .i64 0, .string { data := #[] }, .int .i64 0, .int .i64 0, .bool false, .slice none 0 0, .slice none 0 0] 36) = W at *
  obtain ⟨hpl, hrd, hkw1⟩ := HR.out
  have HRD : Hid _ := hrd.kept hkW
  have HKW : Hid _ := hkw1.trans hkW
  have HPL : Hid _ := hpl
  have HNW : Hid _ := hnW
  clear HR hpl hrd hkw1 hkW hnW
  go_loopw [6, 20] (fun s i wr => ∃ q : Nat, q ≤ m ∧ i = .int .i64 q ∧ s = .string (enW q) ∧ Hid (Kept W wr)) (fun _ i _ => m - (intOf i).toNat)
  case atStart => exact ⟨0, Nat.zero_le _, rfl, rfl, Kept.refl _⟩
  case round =>
    obtain ⟨q, hq, rfl, rfl, HKr⟩ := hrel
    have hz := enW_size q
    by_cases hlt : q < m
    · obtain ⟨p0, p1, p2, p3, a0, a1, a2, a3⟩ := en_rd (HRD.out.kept HKr.out) HPL.out q hlt
      have hcv := conv1 (wr.alloc (.cells #[.slice (some ⟨p0, 0, none⟩) 1 p1, .int .i64 ((q : Int) + 1), .slice (some ⟨p2, 0, none⟩) 1 p3] 39)) (98 + (q : Int)) (by omega) (by omega)
      simp only [World.size_alloc] at hcv
      rw [show (98 + (q : Int)).toNat = 98 + q by omega] at hcv
      have HW : Hid (enW (q + 1) = enW q ++ ({ data := #[32, 45, 62, 32] } ++ bytesN [98 + q])) := rfl
      rw [HW.out] at a3
      have hzb : (bytesN [98 + q]).size = 1 := rfl
      generalize bytesN [98 + q] = S at *
      generalize enW q = V at *
      have HKz : Hid _ := HKr.out.trans ((Kept.alloc wr (.cells #[.slice (some ⟨p0, 0, none⟩) 1 p1, .int .i64 ((q : Int) + 1), .slice (some ⟨p2, 0, none⟩) 1 p3] 39)).trans (Kept.alloc (wr.alloc (.cells #[.slice (some ⟨p0, 0, none⟩) 1 p1, .int .i64 ((q : Int) + 1), .slice (some ⟨p2, 0, none⟩) 1 p3] 39)) (.cells #[.int .u8 (98 + (q : Int))] 5)))
      have a4 := ((Kept.alloc wr (.cells #[.slice (some ⟨p0, 0, none⟩) 1 p1, .int .i64 ((q : Int) + 1), .slice (some ⟨p2, 0, none⟩) 1 p3] 39)).trans (Kept.alloc (wr.alloc (.cells #[.slice (some ⟨p0, 0, none⟩) 1 p1, .int .i64 ((q : Int) + 1), .slice (some ⟨p2, 0, none⟩) 1 p3] 39)) (.cells #[.int .u8 (98 + (q : Int))] 5))).cell a3
      clear HRD HPL HKW HNW HG
      go_wp2
      go_roundw
      case measure => simp [intOf]; omega
      case rel => exact ⟨q + 1, hlt, by go_num, by rw [HW.out], HKz⟩
    · obtain rfl : q = m := by omega
      have hb := HKr.out.blk HNW.out
      have x0 : wr.cell? ⟨w1.heap.size, 0, none⟩ = some (.slice (some ⟨g, 0, none⟩) q cc) := cell_of hb rfl
      have x1 : wr.cell? ⟨w1.heap.size, 1, none⟩ = some (.string { data := #[] }) := cell_of hb rfl
      have x2 : wr.cell? ⟨w1.heap.size, 2, none⟩ = some (.int .i64 what) := cell_of hb rfl
      have HKF : Hid _ := HKW.out.trans HKr.out
      clear hb HNW HKW HKr HRD HPL HG hz hlt
      by_cases hst : 0 < stop ∧ stop ≤ f + 1
      · obtain ⟨rfl, rfl⟩ := hmw.1 hst
        obtain ⟨hs0, hs1⟩ := hst
        clear hmw
        go_wp2
        go_ret
        exact ⟨rfl, HKF.out⟩
      · obtain ⟨rfl, rfl⟩ := hmw.2 hst
        clear hmw
        by_cases hs0 : 0 < stop
        · have hs1 : ¬ stop ≤ f + 1 := fun z => hst ⟨hs0, z⟩
          clear hst
          go_wp2
          go_ret
          exact ⟨rfl, HKF.out⟩
        · clear hst
          go_wp2
          go_ret
          exact ⟨rfl, HKF.out⟩
end Go.Proofs.YtleenphlgbklmabGreatDoor
