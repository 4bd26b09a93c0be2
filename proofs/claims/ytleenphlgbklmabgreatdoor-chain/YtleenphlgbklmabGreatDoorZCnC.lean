import Derived.Test.YtleenphlgbklmabGreatDoorZCnB
set_option linter.unusedVariables false
set_option linter.unusedSimpArgs false
namespace Go.Proofs.YtleenphlgbklmabGreatDoor
open Go.RowKit

set_option maxRecDepth 20000 in
set_option maxHeartbeats 4000000 in
theorem chain_any {A : Nat → Addr} (c d : Int) (w : World) (hG : Glb A w) (h1 : -9223372036854775808 ≤ c) (h2 : c ≤ 9223372036854775807) (h3 : -9223372036854775808 ≤ d) (h4 : d ≤ 9223372036854775807) : Calls Tryz.prog 4 #[.int .i64 c, .int .i64 d] w fun e w' => e = .returned (.bool true) ∧ Kept w w' := by
  obtain ⟨n, hf, hnl⟩ : ∃ f : Nat, pickI c 9 = f ∧ f < 9 := by
    have := pickI_lt c 9 (by omega)
    exact ⟨(pickI c 9).toNat, by omega, by omega⟩
  obtain ⟨f, hs, hfl⟩ : ∃ f : Nat, pickI d 12 = f ∧ f < 12 := by
    have := pickI_lt d 12 (by omega)
    exact ⟨(pickI d 12).toNat, by omega, by omega⟩
  have HP : Hid (∀ W, Calls Tryz.prog 11 #[.int .i64 c, .int .i64 9] W fun e w' => e = .returned (.int .i64 n) ∧ w' = W) := fun W => by
    have := pick_sx c 9 W h1 h2 (by omega) (by omega)
    rwa [hf] at this
  have HQ : Hid (∀ W, Calls Tryz.prog 11 #[.int .i64 d, .int .i64 12] W fun e w' => e = .returned (.int .i64 f) ∧ w' = W) := fun W => by
    have := pick_sx d 12 W h3 h4 (by omega) (by omega)
    rwa [hs] at this
  have HG : Hid _ := hG
  have HE : Hid _ := cq_at (n := n) (fl := f + 1) (by omega) (by omega) (by omega)
  clear hf hs h1 h2 h3 h4 hG
  go_enter Tryz.func4, Tryz.ntmps4
  go_wp2_with fail
  refine Calls.mono (HP.out _) ?_
  rintro e w' ⟨rfl, hww⟩
  rw [hww]
  clear hww w' HP
  go_wp2_with fail
  refine Calls.mono (HQ.out _) ?_
  rintro e w' ⟨rfl, hww⟩
  rw [hww]
  clear hww w' HQ
  go_wp2_with fail
  have HW0 : Hid _ := Kept.refl w
  go_loopw [5, 6] (fun s k wr => ∃ j : Nat, j ≤ n ∧ k = .int .i64 ((j : Int) + 1) ∧ s = .string (cqS j) ∧ Hid (Kept w wr)) (fun _ k _ => n + 1 - (intOf k).toNat)
  case atStart => exact ⟨0, Nat.zero_le _, rfl, rfl, HW0⟩
  case round =>
    obtain ⟨j, hj, rfl, rfl, HKr⟩ := hrel
    have hz := cqS_size j
    by_cases hlt : j < n
    · have HA : Hid (∀ W, Calls Tryz.prog 12 #[.int .i64 ((j : Int) + 1)] W fun e w' => e = .returned (.string (bytesN [48 + (j + 1)])) ∧ Kept W w') := fun W => figs_small W (j + 1) (by omega)
      have HB : Hid (∀ W, Calls Tryz.prog 12 #[.int .i64 (j : Int)] W fun e w' => e = .returned (.string (bytesN [48 + j])) ∧ Kept W w') := fun W => figs_small W j (by omega)
      have HW : Hid (cqS (j + 1) = cqS j ++ ((({ data := #[32, 97, 110, 100, 32, 102] } ++ bytesN [48 + (j + 1)]) ++ { data := #[32, 61, 32, 102] }) ++ bytesN [48 + j])) := rfl
      have hz1 : (bytesN [48 + (j + 1)]).size = 1 := rfl
      have hz2 : (bytesN [48 + j]).size = 1 := rfl
      generalize bytesN [48 + (j + 1)] = S1 at *
      generalize bytesN [48 + j] = S2 at *
      generalize cqS j = V at *
      clear HE HG
      go_wp2_with fail
      refine Calls.mono (HA.out _) ?_
      rintro e w1 ⟨rfl, hk1⟩
      have HK1 : Hid _ := HKr.out.trans hk1
      clear hk1 HKr HA
      go_wp2_with fail
      refine Calls.mono (HB.out _) ?_
      rintro e w2 ⟨rfl, hk2⟩
      have HK2 : Hid _ := HK1.out.trans hk2
      clear hk2 HK1 HB
      go_wp2
      go_roundw
      case measure => simp [intOf]; omega
      case rel => exact ⟨j + 1, hlt, by go_num, by rw [HW.out], HK2⟩
    · obtain rfl : j = n := by omega
      have HB : Hid (∀ W, Calls Tryz.prog 12 #[.int .i64 (j : Int)] W fun e w' => e = .returned (.string (bytesN [48 + j])) ∧ Kept W w') := fun W => figs_small W j (by omega)
      have HT : Hid (cqT j = (cqS j ++ { data := #[32, 105, 110, 32, 102] }) ++ bytesN [48 + j]) := rfl
      have hz2 : (bytesN [48 + j]).size = 1 := rfl
      generalize bytesN [48 + j] = S2 at *
      generalize cqS j = V at *
      go_wp2_with fail
      refine Calls.mono (HB.out _) ?_
      rintro e w2 ⟨rfl, hk2⟩
      have HK2 : Hid _ := HKr.out.trans hk2
      clear hk2 HKr HB
      go_wp2_with fail
      have hm1 : 1 ≤ cqM j (f + 1) := by unfold cqM; split <;> omega
      have hm2 : cqM j (f + 1) ≤ 12 := by unfold cqM; split <;> omega
      have hmw : (f + 1 < j + 2 → cqM j (f + 1) = f + 1 ∧ (cqR j (f + 1)).t = { data := #[] } ∧ (cqR j (f + 1)).what = 9) ∧ (¬ (f + 1 < j + 2) → cqM j (f + 1) = j + 2 ∧ (cqR j (f + 1)).t = { data := #[105, 110, 116] } ∧ (cqR j (f + 1)).what = 0) := ⟨fun h => by simp only [cqM, cqR, if_pos h]; exact ⟨trivial, rfl, rfl⟩, fun h => by simp only [cqM, cqR, if_neg h]; exact ⟨trivial, rfl, rfl⟩⟩
      have hrl : (cqR j (f + 1)).loc = 0 ∧ (cqR j (f + 1)).s = { data := #[] } := by unfold cqR; split <;> exact ⟨rfl, rfl⟩
      have HC : Hid (Calls Tryz.prog 13 #[.string (V ++ { data := #[32, 105, 110, 32, 102] } ++ S2), .slice none 0 0, .slice none 0 0, .int .i64 (1 + (f : Int)), .int .i64 0, .string { data := #[] }] w2 fun e w' => ∃ g cc ps, e = .returned (.agg #[.slice (some ⟨g, 0, none⟩) (cqM j (f + 1)) cc, .string (cqR j (f + 1)).t, .int .i64 (cqR j (f + 1)).what, .int .i64 0, .string { data := #[] }, .int .i64 0, .int .i64 0, .bool false, .slice none 0 0, .slice none 0 0]) ∧ cqM j (f + 1) ≤ cc ∧ cc ≤ maxLen ∧ Hid (ps.length = cqM j (f + 1) ∧ Rds w' g (cqO j (cqM j (f + 1))) ps ∧ Kept w2 w')) := by
        rw [show (1 + (f : Int)) = ((f + 1 : Nat) : Int) by omega, ← HT.out]
        have := watch_rds (HG.out.kept HK2.out) HE.out (fun z => by have := congrArg List.length z; rw [cqO_len] at this; simp at this; omega) (by omega) (by omega) (by omega)
        rw [cqO_len, hrl.1, hrl.2] at this
        exact this
      clear HE HT hrl
      generalize hTq : (cqR j (f + 1)).t = T at *
      generalize hWq : (cqR j (f + 1)).what = what at *
      generalize hMq : cqM j (f + 1) = m at *
      clear hMq hWq hTq hz hz2 hlt hj
      refine Calls.mono HC.out ?_
      rintro e w1 ⟨g, cc, ps, rfl, hc1, hc2, HR⟩
      clear HC
      have hkW : Kept w1 (w1.alloc (.cells #[.slice (some ⟨g, 0, none⟩) m cc, .string T, .int .i64 what, .int .i64 0, .string { data := #[] }, .int .i64 0, .int .i64 0, .bool false, .slice none 0 0, .slice none 0 0] 36)) := Kept.alloc _ _
      have hnW := heap_alloc_new w1 (.cells #[.slice (some ⟨g, 0, none⟩) m cc, .string T, .int .i64 what, .int .i64 0, .string { data := #[] }, .int .i64 0, .int .i64 0, .bool false, .slice none 0 0, .slice none 0 0] 36)
      go_wp2_with fail
      generalize w1.alloc (.cells #[.slice (some ⟨g, 0, none⟩) m cc, .string T, .int .i64 what, .int .i64 0, .string { data := #[] }, .int .i64 0, .int .i64 0, .bool false, .slice none 0 0, .slice none 0 0] 36) = W at *
      obtain ⟨hpl, hrd, hkw1⟩ := HR.out
      have HRD : Hid _ := hrd.kept hkW
      have HKW : Hid _ := HK2.out.trans (hkw1.trans hkW)
      have HPL : Hid _ := hpl
      have HNW : Hid _ := hnW
      clear HR hpl hrd hkw1 hkW hnW HK2
      go_loopw [43] (fun i wr => ∃ q : Nat, q ≤ m ∧ i = .int .i64 q ∧ Hid (Kept W wr)) (fun i _ => m - (intOf i).toNat)
      case atStart => exact ⟨0, Nat.zero_le _, rfl, Kept.refl _⟩
      case round =>
        obtain ⟨q, hq, rfl, HKr⟩ := hrel
        by_cases hlt : q < m
        · obtain ⟨p0, p1, p2, p3, a0, a1, a2, a3, a4⟩ := cq_rd (HRD.out.kept HKr.out) HPL.out q hlt
          have HA3 : Hid _ := a3
          have HA4 : Hid _ := a4
          clear a3 a4 HRD HPL HKW HNW HG hmw
          have HKA : Hid (Kept wr (wr.alloc (.cells #[.slice (some ⟨p0, 0, none⟩) (j + 1) p1, .int .i64 ((q : Int) + 1), .slice (some ⟨p2, 0, none⟩) (j + 1) p3] 39))) := Kept.alloc _ _
          have hnA := heap_alloc_new wr (.cells #[.slice (some ⟨p0, 0, none⟩) (j + 1) p1, .int .i64 ((q : Int) + 1), .slice (some ⟨p2, 0, none⟩) (j + 1) p3] 39)
          go_wp2_with fail
          generalize wr.alloc (.cells #[.slice (some ⟨p0, 0, none⟩) (j + 1) p1, .int .i64 ((q : Int) + 1), .slice (some ⟨p2, 0, none⟩) (j + 1) p3] 39) = W1 at *
          have HNA : Hid _ := hnA
          have HK3 : Hid _ := HKr.out.trans HKA.out
          have HB3 : Hid (∀ k, k < j + 1 → W1.cell? ⟨p0, k, none⟩ = some (.string (cqN k))) := fun k hk => HKA.out.cell (HA3.out k hk)
          have HB4 : Hid (∀ k, k < j + 1 → W1.cell? ⟨p2, k, none⟩ = some (.string (cqU q k))) := fun k hk => HKA.out.cell (HA4.out k hk)
          clear hnA a0 a1 a2 HKr HA3 HA4 HKA
          generalize wr.heap.size = rb at *
          go_loopw [72] (fun i w3 => ∃ k : Nat, k ≤ j + 1 ∧ i = .int .i64 k ∧ Hid (Kept W1 w3)) (fun i _ => j + 1 - (intOf i).toNat)
          case atStart => exact ⟨0, Nat.zero_le _, rfl, Kept.refl _⟩
          case round =>
            obtain ⟨k, hk, rfl, HKk⟩ := hrel
            by_cases hkl : k < j + 1
            · have hb := HKk.out.blk HNA.out
              have x0 : wr.cell? ⟨rb, 0, none⟩ = some (.slice (some ⟨p0, 0, none⟩) (j + 1) p1) := cell_of hb rfl
              have x1 : wr.cell? ⟨rb, 1, none⟩ = some (.int .i64 ((q : Int) + 1)) := cell_of hb rfl
              have y0 := HKk.out.cell (HB3.out k hkl)
              have y1 := HKk.out.cell (HB4.out k hkl)
              have HF : Hid (∀ W, Calls Tryz.prog 12 #[.int .i64 (k : Int)] W fun e w' => e = .returned (.string (bytesN [48 + k])) ∧ Kept W w') := fun W => figs_small W k (by omega)
              have hN : cqN k = { data := #[102] } ++ bytesN [48 + k] := rfl
              rw [hN] at y0
              have hz1 : (bytesN [48 + k]).size = 1 := rfl
              clear hN hb HNA HB3 HB4
              generalize bytesN [48 + k] = S1 at *
              by_cases hkq : k < q + 1
              · rw [show cqU q k = { data := #[105, 110, 116] } by simp only [cqU, if_pos hkq]] at y1
                have HJ : Hid (∀ w', Kept wr.drew w' → w'.cell? ⟨rb, 0, none⟩ = some (.slice (some ⟨p0, 0, none⟩) (j + 1) p1) ∧ w'.cell? ⟨p0, k, none⟩ = some (.string ({ data := #[102] } ++ S1)) ∧ Hid (Kept W1 w')) := fun w' h0 => by
                  have h : Kept wr w' := (Kept.drew wr).trans h0
                  exact ⟨h.cell x0, h.cell y0, HKk.out.trans h⟩
                go_wp2_with fail
                go_region_held3 (fun w' => w'.cell? ⟨rb, 0, none⟩ = some (.slice (some ⟨p0, 0, none⟩) (j + 1) p1) ∧ w'.cell? ⟨p0, k, none⟩ = some (.string ({ data := #[102] } ++ S1))) (go_keep) (first | (go_at_call 12; refine Calls.mono (HF.out _) ?_; rintro e w5 ⟨rfl, hB⟩; obtain ⟨z0, z1, HKz⟩ := HJ.out w5 hB; clear hB))
                all_goals
                  go_wp2
                  go_roundw
                  case measure => simp [intOf]; omega
                  case rel => exact ⟨k + 1, hkl, by go_num, HKz⟩
              · rw [show cqU q k = { data := #[97] } by simp only [cqU, if_neg hkq]] at y1
                have HJ : Hid (∀ w', Kept wr.drew w' → w'.cell? ⟨rb, 0, none⟩ = some (.slice (some ⟨p0, 0, none⟩) (j + 1) p1) ∧ w'.cell? ⟨p0, k, none⟩ = some (.string ({ data := #[102] } ++ S1)) ∧ Hid (Kept W1 w')) := fun w' h0 => by
                  have h : Kept wr w' := (Kept.drew wr).trans h0
                  exact ⟨h.cell x0, h.cell y0, HKk.out.trans h⟩
                go_wp2_with fail
                go_region_held3 (fun w' => w'.cell? ⟨rb, 0, none⟩ = some (.slice (some ⟨p0, 0, none⟩) (j + 1) p1) ∧ w'.cell? ⟨p0, k, none⟩ = some (.string ({ data := #[102] } ++ S1))) (go_keep) (first | (go_at_call 12; refine Calls.mono (HF.out _) ?_; rintro e w5 ⟨rfl, hB⟩; obtain ⟨z0, z1, HKz⟩ := HJ.out w5 hB; clear hB))
                all_goals
                  go_wp2
                  go_roundw
                  case measure => simp [intOf]; omega
                  case rel => exact ⟨k + 1, hkl, by go_num, HKz⟩
            · obtain rfl : k = j + 1 := by omega
              clear HNA HB3 HB4
              have HKE : Hid _ := HK3.out.trans HKk.out
              go_wp2
              go_roundw
              case measure => simp [intOf]; omega
              case rel => exact ⟨q + 1, hlt, by go_num, HKE⟩
        · obtain rfl : q = m := by omega
          have hb := HKr.out.blk HNW.out
          have x0 : wr.cell? ⟨w1.heap.size, 0, none⟩ = some (.slice (some ⟨g, 0, none⟩) q cc) := cell_of hb rfl
          have x1 : wr.cell? ⟨w1.heap.size, 1, none⟩ = some (.string T) := cell_of hb rfl
          have x2 : wr.cell? ⟨w1.heap.size, 2, none⟩ = some (.int .i64 what) := cell_of hb rfl
          have HKF : Hid _ := HKW.out.trans HKr.out
          clear hb HNW HKW HKr HRD HPL HG hlt
          by_cases hst : f + 1 < j + 2
          · obtain ⟨rfl, rfl, rfl⟩ := hmw.1 hst
            clear hmw
            go_wp2
            go_ret
            exact ⟨rfl, HKF.out⟩
          · obtain ⟨rfl, rfl, rfl⟩ := hmw.2 hst
            clear hmw
            go_wp2
            go_ret
            exact ⟨rfl, HKF.out⟩
end Go.Proofs.YtleenphlgbklmabGreatDoor
