import Derived.Test.YtleenphlgbklmaaGreatDoorTPInsE
set_option linter.unusedVariables false
set_option linter.unusedSimpArgs false
namespace Go.Proofs.YtleenphlgbklmaaGreatDoor
open Go.RowKit

/-- what lies there when the answers are held together. -/
structure InD (n1 : Nat) (la ta na ga : Option Addr) (ov : Value) (ks tx nm sh : Nat → ByteArray) (w : World) : Prop where
  l : SRow w la n1 ks
  t : SRow w ta n1 tx
  n : SRow w na n1 nm
  g : ∃ (gb : Nat) (gp : Nat → Value), ∀ q, q < n1 → ga = some ⟨gb, 0, none⟩ ∧ w.cell? ⟨gb, q, none⟩ = some (gp q) ∧ ∀ m, Calls Tryz.prog 23 #[gp q, ov] (w.drewN m) fun e w' => e = .returned (.string (sh q)) ∧ ∃ k, w' = (w.drewN m).drewN k
def InP (n1 : Nat) (ks tx nm sh : Nat → ByteArray) : Prop := (∀ k q, k < n1 → q < n1 → ks q = nm k → tx q = sh k) ∧ (∀ q, q + 1 < n1 → Op.bytesLess (ks q).toList (ks (q + 1)).toList = true) ∧ (∀ k, k < n1 → ∃ q, q < n1 ∧ ks q = nm k)
set_option maxRecDepth 20000 in
set_option maxHeartbeats 2000000 in
theorem insts_yes (s z : ByteArray) (w : World) (n1 n2 : Nat) (hn1 : n1 ≤ 1000) (R0 : Option Addr → Nat → Option Addr → Nat → (Nat → ByteArray) → (Nat → ByteArray) → World → Prop) (R1 R2 : Nat → Option Addr → Nat → World → Prop) (nm sh : Nat → ByteArray)
        (HP : Hid (∀ W, Kept w W → Calls Tryz.prog 21 #[.string s, .string z] W fun e w' => ∃ la lc ta tc ks tx, e = .returned (.tuple #[.slice la n1 lc, .slice ta n1 tc, .bool false, faultVal 0 0 { data := #[] }]) ∧ Kept W w' ∧ Hid (R0 la lc ta tc ks tx w') ∧ Hid (InP n1 ks tx nm sh)))
    (HR : Hid (∀ W, Kept w W → Calls Tryz.prog 19 #[.string s] W fun e w' => ∃ (b : Nat) (ao : Option Addr) (nc : Nat), e = .returned (.tuple #[.pointer (some ⟨b, 0, none⟩), .slice ao n1 nc, faultV 0 0]) ∧ Kp (fun _ => False) W w' ∧ Hid (R1 b ao nc w')))
    (HR2 : Hid (∀ W, Kept w W → Calls Tryz.prog 19 #[.string z] W fun e w' => ∃ (b : Nat) (ao : Option Addr) (nc : Nat), e = .returned (.tuple #[.pointer (some ⟨b, 0, none⟩), .slice ao n2 nc, faultV 0 0]) ∧ Kp (fun _ => False) W w' ∧ Hid (R2 b ao nc w')))
    (HM : Hid (∀ la lc ta tc ks tx w1 b0 ao0 nc0 b1 ao1 nc1 w3 w6 W, Hid (R0 la lc ta tc ks tx w1) → Kept w1 w3 → Hid (R1 b0 ao0 nc0 w3) → Kept w3 w6 → Hid (R2 b1 ao1 nc1 w6) → (∀ (k : Nat) (o : Obj), w6.heap[k]? = some o → (∀ cs f, o ≠ .cells cs 27 f) → W.heap[k]? = some o) → Calls Tryz.prog 22 #[.pointer (some ⟨b0, 0, none⟩), .pointer (some ⟨b1, 0, none⟩), .slice (some ⟨W.heap.size, 0, none⟩) n1 n1] (W.alloc (.cells (madeCells #[.pointer none] n1) 33)) fun e w' => ∃ ga gc, e = .returned (.tuple #[.slice ga n1 gc, .bool true]) ∧ Kept W w' ∧ Hid (InD n1 la ta ao0 ga (.slice ao1 n2 nc1) ks tx nm sh w'))) :
    Calls Tryz.prog 5 #[.string s, .string z] w fun e w' => e = .returned (.bool true) ∧ Kept w w' := by
  go_enter Tryz.func5, Tryz.ntmps5
  go_wp2_with fail
  refine Calls.mono (HP.out _ (Kept.refl _)) ?_
  rintro e w1 ⟨la, lc, ta, tc, ks, tx, rfl, hk1, hR0, HPP⟩
  have P1 : Hid _ := HPP.out.1
  have P2 : Hid _ := HPP.out.2.1
  have P3 : Hid _ := HPP.out.2.2
  clear HPP
  unfold faultVal
  go_wp2_with fail
  have hkg : Kept w1 (w1.alloc (.cells #[.int .i64 0, .int .i64 0, .string { data := #[] }, .int .i64 0, .int .i64 0] 23)) := Kept.alloc _ _
  have hbg : (w1.alloc (.cells #[.int .i64 0, .int .i64 0, .string { data := #[] }, .int .i64 0, .int .i64 0] 23)).heap[w1.heap.size]? = some (.cells #[.int .i64 0, .int .i64 0, .string { data := #[] }, .int .i64 0, .int .i64 0] 23 (0, 0)) := heap_alloc_new _ _
  generalize w1.alloc (.cells #[.int .i64 0, .int .i64 0, .string { data := #[] }, .int .i64 0, .int .i64 0] 23) = w2 at *
  have hK2 := hk1.trans hkg
  refine Calls.mono (HR.out w2 hK2) ?_
  rintro e w3 ⟨b0, ao0, nc0, rfl, hk3, hR1⟩
  unfold faultV
  have hk3' := Kept.kp hk3
  have hbg3 := hk3'.blk hbg
  have hK3 := hK2.trans hk3'
  have hkf : Kept w3 (w3.alloc (.cells #[.int .i64 0, .int .i64 0, .string { data := #[] }, .int .i64 0, .int .i64 0] 27)) := Kept.alloc _ _
  have hbf : (w3.alloc (.cells #[.int .i64 0, .int .i64 0, .string { data := #[] }, .int .i64 0, .int .i64 0] 27)).heap[w3.heap.size]? = some (.cells #[.int .i64 0, .int .i64 0, .string { data := #[] }, .int .i64 0, .int .i64 0] 27 (0, 0)) := heap_alloc_new _ _
  have hb4 := hkf.blk hbg3
  have hK4 := hK3.trans hkf
  have HR2W : Hid _ := HR2.out _ hK4
  have hl13 := lt_of_block hbg3
  have hK23 := hkg.trans hk3'
  clear HP HR HR2 hkg hk3 hk3' hbg hbg3
  go_wp2_with fail
  generalize w3.alloc (.cells #[.int .i64 0, .int .i64 0, .string { data := #[] }, .int .i64 0, .int .i64 0] 27) = w5 at *
  refine Calls.mono HR2W.out ?_
  rintro e w6 ⟨b1, ao1, nc1, rfl, hk6, hR2⟩
  have hk6 := Kept.kp hk6
  have hb6 := hk6.blk hb4
  have hf6 := hk6.blk hbf
  have hK6 := hK4.trans hk6
  have hk36 := hkf.trans hk6
  clear HR2W hbf hb4
  unfold faultV
  have c0 : w6.cell? ⟨w3.heap.size, 0, none⟩ = some (.int .i64 0) := by simp [World.cell?, hf6]
  have c1 : w6.cell? ⟨w3.heap.size, 1, none⟩ = some (.int .i64 0) := by simp [World.cell?, hf6]
  have c2 : w6.cell? ⟨w3.heap.size, 2, none⟩ = some (.string { data := #[] }) := by simp [World.cell?, hf6]
  have c3 : w6.cell? ⟨w3.heap.size, 3, none⟩ = some (.int .i64 0) := by simp [World.cell?, hf6]
  have c4 : w6.cell? ⟨w3.heap.size, 4, none⟩ = some (.int .i64 0) := by simp [World.cell?, hf6]
  have fz : ∀ j, w6.frozen? ⟨w3.heap.size, j, none⟩ = false := fun j => by simp [World.frozen?, hf6]
  obtain ⟨w4, hw4⟩ : ∃ w4, w4 = ((((w6.setCell ⟨w3.heap.size, 0, none⟩ (.int .i64 0)).setCell ⟨w3.heap.size, 1, none⟩ (.int .i64 0)).setCell ⟨w3.heap.size, 2, none⟩ (.string { data := #[] })).setCell ⟨w3.heap.size, 3, none⟩ (.int .i64 0)).setCell ⟨w3.heap.size, 4, none⟩ (.int .i64 0) := ⟨_, rfl⟩
  have hmk := run_make_row' (P := Tryz.prog) 40 33 (.pointer none) 8 Tryz.underlying40 Tryz.infoTyP rfl .i64 .i64 n1 (by omega) (by omega) w4
  rw [hw4] at hmk
  go_wp2_with fail
  have hoth : ∀ q, q ≠ w3.heap.size → w4.heap[q]? = w6.heap[q]? := fun q hq => by
    rw [hw4]
    have e : ∀ (W : World) (j : Nat) (v : Value), (W.setCell ⟨w3.heap.size, j, none⟩ v).heap[q]? = W.heap[q]? := fun W j v => Below.heap_setCell _ _ _ q (by intro z; exact hq z)
    exact (e _ _ _).trans ((e _ _ _).trans ((e _ _ _).trans ((e _ _ _).trans (e _ _ _))))
  have hb4 := (hoth w1.heap.size (by omega)).trans hb6
  have hK4 : Kept w w4 := ⟨by rw [hw4]; exact hK6.1, by rw [hw4]; exact hK6.2, by rw [hw4]; simpa using hK6.3, fun q hq => (hoth q (by have := hK3.size; omega)).trans (hK6.4 q hq)⟩
  have hsz : w6.heap.size = w4.heap.size := by rw [hw4]; simp
  rw [← hw4, hsz]
  refine Calls.mono (HM.out la lc ta tc ks tx w1 b0 ao0 nc0 b1 ao1 nc1 w3 w6 w4 hR0 hK23 hR1 hk36 hR2 (fun k o hk ho => ?_)) ?_
  · refine (hoth k (fun e => ?_)).trans hk
    rw [e, hf6] at hk
    exact ho _ _ (Option.some.inj hk).symm
  rintro e w7 ⟨ga, gc, rfl, hk7, hQ⟩
  have hb7 := hk7.blk hb4
  have hK7 := hK4.trans hk7
  clear hw4 hoth hb6 hf6 c0 c1 c2 c3 c4 fz hmk hk7 hb4 hsz HM hR0 hR1 hR2 hk36 hK23 hk1
  have g0 : w7.cell? ⟨w1.heap.size, 0, none⟩ = some (.int .i64 0) := by simp [World.cell?, hb7]
  clear hb7
  go_wp2_with fail
  have HQ := hQ
  have HK7 : Hid _ := hK7
  clear hQ hK7 hK2 hK3 hl13 hkf hk6 hK6 hK4 g0
  go_loopw [119] (fun i wr => ∃ q m : Nat, q ≤ n1 ∧ i = .int .i64 q ∧ wr = w7.drewN m) (fun i _ => n1 - (intOf i).toNat)
  case atStart => exact ⟨0, 0, Nat.zero_le _, rfl, rfl⟩
  case round =>
    obtain ⟨q, m, hq, rfl, hw⟩ := hrel
    by_cases hlt : q < n1
    · have hD := HQ.out
      obtain ⟨g, hr⟩ := hD.n
      obtain ⟨rfl, hc⟩ := hr q hlt
      have hc : wr.cell? ⟨g, q, none⟩ = some (.string (nm q)) := by rw [hw]; exact hc
      have HW : Hid _ := hw
      clear hw hr hD
      go_wp2_with fail
      go_loopw [126] (fun i wr => ∃ j m : Nat, j ≤ n1 ∧ i = .int .i64 j ∧ wr = w7.drewN m) (fun i _ => n1 - (intOf i).toNat)
      case atStart => exact ⟨0, m, Nat.zero_le _, rfl, HW.out⟩
      case round =>
        obtain ⟨j, m', hj, rfl, hw'⟩ := hrel
        by_cases hlj : j < n1
        · have hD := HQ.out
          obtain ⟨gl, hrl⟩ := hD.l
          obtain ⟨gt, hrt⟩ := hD.t
          obtain ⟨gg, gp, hrg⟩ := hD.g
          obtain ⟨rfl, hcl⟩ := hrl j hlj
          obtain ⟨rfl, hct⟩ := hrt j hlj
          obtain ⟨rfl, hcg, hsh⟩ := hrg q hlt
          have hcw : ∀ a, wr.cell? a = w7.cell? a := fun a => by rw [hw']; rfl
          have kl : wr.cell? ⟨gl, j, none⟩ = some (.string (ks j)) := by rw [hcw]; exact hcl
          have kt : wr.cell? ⟨gt, j, none⟩ = some (.string (tx j)) := by rw [hcw]; exact hct
          have kg : wr.cell? ⟨gg, q, none⟩ = some (gp q) := by rw [hcw]; exact hcg
          have HS : Hid (∀ m, Calls Tryz.prog 23 #[gp q, .slice ao1 n2 nc1] (wr.drewN m) fun e w' => e = .returned (.string (sh q)) ∧ ∃ k, w' = (wr.drewN m).drewN k) := fun m => by
            rw [hw', World.drewN_drewN]
            exact hsh _
          have kp : Hid (∀ i, j = i + 1 → wr.cell? ⟨gl, i, none⟩ = some (.string (ks i))) := fun i hi => by rw [hcw]; exact (hrl i (by omega)).2
          have HE : Hid (ks j = nm q → tx j = sh q) := P1.out q j hlt hlj
          have HL : Hid (∀ i, j = i + 1 → Op.bytesLess (ks i).toList (ks j).toList = true) := fun i hi => by subst hi; exact P2.out i hlj
          have HW' : Hid _ := hw'
          clear hw' hrl hrt hrg hcl hct hcg hsh hcw hc HW hD hq hj
          generalize ks j = kj at *
          generalize tx j = tj at *
          generalize sh q = sq at *
          generalize gp q = gq at *
          generalize nm q = nq0 at *
          cases he : (kj.toList == nq0.toList)
          · clear HE HS
            cases j with
            | zero =>
              go_wp2
              go_quiet (fail)
              go_wp2
              go_roundw
              case rel => exact ⟨1, _, hlj, by go_num, by rw [HW'.out, World.drewN_drewN]⟩
              case measure => simp [intOf]; omega
            | succ i =>
              have kp1 := kp.out i rfl
              have hl1 := HL.out i rfl
              clear kp HL
              generalize ks i = ki at *
              go_wp2
              go_quiet (fail)
              go_wp2
              go_roundw
              case rel => exact ⟨i + 2, _, hlj, by go_num, by rw [HW'.out, World.drewN_drewN]⟩
              case measure => simp [intOf]; omega
          · have e1 : kj = nq0 := (sameS_iff _ _).1 (by rw [ByteArray.toList_eq, ByteArray.toList_eq] at he; exact he)
            have e2 := HE.out e1
            subst e2
            have hsame : (tj.toList == tj.toList) = true := by simp
            clear HE e1
            cases j with
            | zero =>
              go_wp2
              go_quiet ((go_at_call 23; exact Calls.quiet_of (HS.out _)))
              go_wp2
              go_roundw
              case rel => exact ⟨1, _, hlj, by go_num, by rw [HW'.out, World.drewN_drewN]⟩
              case measure => simp [intOf]; omega
            | succ i =>
              have kp1 := kp.out i rfl
              have hl1 := HL.out i rfl
              clear kp HL
              generalize ks i = ki at *
              go_wp2
              go_quiet ((go_at_call 23; exact Calls.quiet_of (HS.out _)))
              go_wp2
              go_roundw
              case rel => exact ⟨i + 2, _, hlj, by go_num, by rw [HW'.out, World.drewN_drewN]⟩
              case measure => simp [intOf]; omega
        · obtain ⟨j0, hj0, e0⟩ := P3.out q hlt
          have HI : Hid (∀ lc, Calls Tryz.prog 24 #[.slice la n1 lc, .string (nm q)] wr fun e w' => e = .returned (.bool true) ∧ ∃ m, w' = wr.drewN m) := fun lc => by
            rw [← e0]
            exact lin_any wr la n1 lc j0 ks hn1 (by rw [hw']; exact HQ.out.l) hj0
          have HW' : Hid _ := hw'
          clear hw' hc HW hj hq e0 hj0
          go_wp2_with fail
          refine Calls.mono (HI.out _) ?_
          rintro e w8 ⟨rfl, m8, hw8⟩
          have HW8 : Hid _ := hw8
          clear hw8 HI
          go_wp2
          go_roundw
          case rel => exact ⟨q + 1, _, by omega, by go_num, by rw [HW8.out, HW'.out, World.drewN_drewN]⟩
          case measure => simp [intOf]; omega
    · have HW : Hid _ := hw
      clear hw hq
      go_wp2
      go_ret
      refine ⟨rfl, ?_⟩
      rw [HW.out]
      exact HK7.out.trans ⟨rfl, rfl, Nat.le_refl _, fun _ _ => rfl⟩
end Go.Proofs.YtleenphlgbklmaaGreatDoor
