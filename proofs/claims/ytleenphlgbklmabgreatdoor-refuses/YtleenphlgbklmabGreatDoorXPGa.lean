import Derived.Test.YtleenphlgbklmabGreatDoorXPSt
import Derived.Test.YtleenphlgbklmabGreatDoorXTxC
import Derived.Test.YtleenphlgbklmabGreatDoorXPRoom
import Derived.Test.YtleenphlgbklmabGreatDoorXPTokAt
set_option linter.unusedVariables false
set_option linter.unusedSimpArgs false
namespace Go.Proofs.YtleenphlgbklmabGreatDoor
open Go.RowKit

set_option maxRecDepth 20000 in
theorem bel_var (v : Value) (w : World) : Calls Tryz.prog 222 #[v] w fun e w' => e = .returned (.slice none 0 0) ∧ Kept w w' := by
  go_enter Tryz.func222, Tryz.ntmps222
  go_wp2
  go_ret
  exact ⟨rfl, Kept.refl _⟩
set_option maxRecDepth 20000 in
theorem bel_basic (v : Value) (w : World) : Calls Tryz.prog 243 #[.agg #[v]] w fun e w' => e = .returned (.slice none 0 0) ∧ Kept w w' := by
  go_enter Tryz.func243, Tryz.ntmps243
  go_wp2
  go_ret
  exact ⟨rfl, Kept.alloc _ _⟩
theorem Tryz.cfBB (v : Value) (w : World) : (callFunc 243 #[v]).run Tryz.prog w = .ok (.enter 243 #[v]) w := by kernel_rfl
theorem Tryz.cfVB (v : Value) (w : World) : (callFunc 222 #[v]).run Tryz.prog w = .ok (.enter 222 #[v]) w := by kernel_rfl
theorem Tryz.cfLB (v : Value) (w : World) : (callFunc 227 #[v]).run Tryz.prog w = .ok (.enter 227 #[v]) w := by kernel_rfl
theorem Tryz.cfPB (v : Value) (w : World) : (callFunc 228 #[v]).run Tryz.prog w = .ok (.enter 228 #[v]) w := by kernel_rfl
theorem Tryz.cfAB (v : Value) (w : World) : (callFunc 229 #[v]).run Tryz.prog w = .ok (.enter 229 #[v]) w := by kernel_rfl
theorem kids_nd {σ : St} {k : Kd} {i : Nat} {ks : List TR} (h : kidsF σ (.nd k i) = some ks) (hr : Rp σ (.nd k i) (.nd k i)) :
    (k = .vr ∧ ks = [] ∧ ∃ nm g, σ[i]? = some ⟨.vr nm g, none⟩) ∨ (∃ x, k = .ls ∧ ks = [x] ∧ σ[i]? = some ⟨.ls x, none⟩) ∨ (∃ x y, k = .pr ∧ ks = [x, y] ∧ σ[i]? = some ⟨.pr x y, none⟩) ∨ (∃ x y, k = .ar ∧ ks = [x, y] ∧ σ[i]? = some ⟨.ar x y, none⟩) := by
  obtain ⟨nk, rfl, hi⟩ := hr.rt
  simp only [kidsF, hi] at h
  cases nk with
  | vr nm g => simp only [Option.some.injEq] at h; exact .inl ⟨rfl, h.symm, nm, g, hi⟩
  | ls x => simp only [Option.some.injEq] at h; exact .inr (.inl ⟨x, rfl, h.symm, hi⟩)
  | pr x y => simp only [Option.some.injEq] at h; exact .inr (.inr (.inl ⟨x, y, rfl, h.symm, hi⟩))
  | ar x y => simp only [Option.some.injEq] at h; exact .inr (.inr (.inr ⟨x, y, rfl, h.symm, hi⟩))
/-- the block of a node that is not found to be another. -/
theorem SX.blk {w : World} {ad : List Nat} {σ : St} (hs : SX w ad σ) {i b : Nat} {nk : NK} (hi : σ[i]? = some ⟨nk, none⟩) (hb : ad[i]? = some b) : ∃ o, w.heap[b]? = some o ∧ NBk ad nk .nilIface o := by
  obtain ⟨τ, h1, h2⟩ := hs
  obtain ⟨sv, o, h3, h4, h5⟩ := h1.blk i nk none b (h2.root hi) hb
  rw [show sv = _ from h4] at h5
  exact ⟨o, h3, h5⟩
theorem below0 {w : World} {ad : List Nat} {σ : St} {r0 : TR} {v0 : Value} (hr : Rp σ r0 r0) (hv : RV ad r0 v0) (hk : kidsF σ r0 = some []) :
    ∃ T u f rv, v0 = .iface T u ∧ (Go.method 473 T u "schemes/infer.below").run Tryz.prog w = .ok (f, rv) w ∧ (callFunc f #[rv]).run Tryz.prog w = .ok (.enter f #[rv]) w ∧ Calls Tryz.prog f #[rv] w fun e w' => e = .returned (.slice none 0 0) ∧ Kept w w' := by
  cases r0 with
  | int => exact ⟨_, _, _, _, hv, Tryz.mBB _ w, Tryz.cfBB _ w, bel_basic _ w⟩
  | bool => exact ⟨_, _, _, _, hv, Tryz.mBB _ w, Tryz.cfBB _ w, bel_basic _ w⟩
  | nd k i =>
    obtain ⟨b, hb, rfl⟩ := hv
    rcases kids_nd hk hr with ⟨rfl, _, _⟩ | ⟨x, _, e, _⟩ | ⟨x, y, _, e, _⟩ | ⟨x, y, _, e, _⟩
    · exact ⟨_, _, _, _, rfl, Tryz.mVB _ w, Tryz.cfVB _ w, bel_var _ w⟩
    · cases e
    · cases e
    · cases e
theorem below1 {w : World} {ad : List Nat} {σ : St} {r0 x : TR} {v0 : Value} (hs : SX w ad σ) (hr : Rp σ r0 r0) (hv : RV ad r0 v0) (hk : kidsF σ r0 = some [x]) :
    ∃ T u f rv T1 u1, v0 = .iface T u ∧ (Go.method 473 T u "schemes/infer.below").run Tryz.prog w = .ok (f, rv) w ∧ (callFunc f #[rv]).run Tryz.prog w = .ok (.enter f #[rv]) w ∧ RV ad x (.iface T1 u1) ∧ Calls Tryz.prog f #[rv] w fun e w' => ∃ g, e = .returned (.slice (some ⟨g, 0, none⟩) 1 1) ∧ w.heap.size ≤ g ∧ w'.heap[g]? = some (.cells #[.iface T1 u1] 77 (0, 0)) ∧ Kept w w' := by
  cases r0 with
  | int => simp [kidsF] at hk
  | bool => simp [kidsF] at hk
  | nd k i =>
    obtain ⟨b, hb, rfl⟩ := hv
    rcases kids_nd hk hr with ⟨_, e, _⟩ | ⟨x, rfl, e, hi⟩ | ⟨x, y, _, e, _⟩ | ⟨x, y, _, e, _⟩
    · cases e
    · simp only [List.cons.injEq, and_true] at e
      subst e
      obtain ⟨o, ho, p, hp, rfl⟩ := hs.blk hi hb
      obtain ⟨T1, u1, rfl⟩ := hp.iface
      refine ⟨_, _, _, _, T1, u1, rfl, Tryz.mLB _ w, Tryz.cfLB _ w, hp, (below_list w b T1 u1 ho).mono ?_⟩
      rintro e w' ⟨rfl, rfl⟩
      exact ⟨_, rfl, Nat.le_refl _, heap_alloc_new _ _, Kept.alloc _ _⟩
    · cases e
    · cases e
theorem below2 {w : World} {ad : List Nat} {σ : St} {r0 x y : TR} {v0 : Value} (hs : SX w ad σ) (hr : Rp σ r0 r0) (hv : RV ad r0 v0) (hk : kidsF σ r0 = some [x, y]) :
    ∃ T u f rv T1 u1 T2 u2, v0 = .iface T u ∧ (Go.method 473 T u "schemes/infer.below").run Tryz.prog w = .ok (f, rv) w ∧ (callFunc f #[rv]).run Tryz.prog w = .ok (.enter f #[rv]) w ∧ RV ad x (.iface T1 u1) ∧ RV ad y (.iface T2 u2) ∧ Calls Tryz.prog f #[rv] w fun e w' => ∃ g, e = .returned (.slice (some ⟨g, 0, none⟩) 2 2) ∧ w.heap.size ≤ g ∧ w'.heap[g]? = some (.cells #[.iface T1 u1, .iface T2 u2] 77 (0, 0)) ∧ Kept w w' := by
  cases r0 with
  | int => simp [kidsF] at hk
  | bool => simp [kidsF] at hk
  | nd k i =>
    obtain ⟨b, hb, rfl⟩ := hv
    rcases kids_nd hk hr with ⟨_, e, _⟩ | ⟨x, _, e, hi⟩ | ⟨x, y, rfl, e, hi⟩ | ⟨x, y, rfl, e, hi⟩
    · cases e
    · cases e
    · simp only [List.cons.injEq, and_true] at e
      obtain ⟨rfl, rfl⟩ := e
      obtain ⟨o, ho, p, q, hp, hq, rfl⟩ := hs.blk hi hb
      obtain ⟨T1, u1, rfl⟩ := hp.iface
      obtain ⟨T2, u2, rfl⟩ := hq.iface
      refine ⟨_, _, _, _, T1, u1, T2, u2, rfl, Tryz.mPB _ w, Tryz.cfPB _ w, hp, hq, (below_pair w b T1 u1 T2 u2 ho).mono ?_⟩
      rintro e w' ⟨rfl, n, rfl⟩
      exact ⟨_, rfl, Nat.le_refl _, heap_alloc_new _ _, (Kept.drewN _ _).trans (Kept.alloc _ _)⟩
    · simp only [List.cons.injEq, and_true] at e
      obtain ⟨rfl, rfl⟩ := e
      obtain ⟨o, ho, p, q, hp, hq, rfl⟩ := hs.blk hi hb
      obtain ⟨T1, u1, rfl⟩ := hp.iface
      obtain ⟨T2, u2, rfl⟩ := hq.iface
      refine ⟨_, _, _, _, T1, u1, T2, u2, rfl, Tryz.mAB _ w, Tryz.cfAB _ w, hp, hq, (below_arr w b T1 u1 T2 u2 ho).mono ?_⟩
      rintro e w' ⟨rfl, n, rfl⟩
      exact ⟨_, rfl, Nat.le_refl _, heap_alloc_new _ _, (Kept.drewN _ _).trans (Kept.alloc _ _)⟩
theorem SX.kept {w w' : World} {ad : List Nat} {σ : St} (h : SX w ad σ) (hk : Kept w w') : SX w' ad σ := h.keep (fun _ _ _ hb => hk.blk hb)
/-- a block of types' values is none of the store's. -/
theorem Kt.typs {w w' : World} {ad : List Nat} {S : Nat → Prop} (h : Kt ad S w w') {g : Nat} {cs : Array Value} {f : Nat × Nat} (hg : w.heap[g]? = some (.cells cs 77 f)) (hn : ¬ S g) : w'.heap[g]? = some (.cells cs 77 f) := h.blk g _ hg hn (by
  rintro ⟨cs', e, f', he, ht⟩
  simp only [Obj.cells.injEq] at he
  obtain ⟨_, rfl, _⟩ := he
  rcases ht with e | e | e | e <;> cases e)
end Go.Proofs.YtleenphlgbklmabGreatDoor

namespace Go.Proofs.YtleenphlgbklmabGreatDoor
open Go.RowKit

theorem roomF_le : ∀ (n : Nat) {σ : St} {r : TR} {room k : Int}, roomF n σ r room = some k → 0 ≤ room → -1 ≤ k ∧ k ≤ room := by
  intro n
  induction n with
  | zero => intro σ r room k h; simp [roomF] at h
  | succ n ih =>
    intro σ r room k h h0
    simp only [roomF, Option.bind_eq_some_iff] at h
    obtain ⟨r0, _, ks, _, h⟩ := h
    split at h
    · simp only [Option.some.injEq] at h
      omega
    · split at h
      · simp only [Option.some.injEq] at h
        omega
      · have := ih h (by omega)
        omega
    · split at h
      · simp only [Option.some.injEq] at h
        omega
      · simp only [Option.bind_eq_some_iff] at h
        obtain ⟨a, ha, h⟩ := h
        have := ih ha (by omega)
        split at h
        · simp only [Option.some.injEq] at h
          omega
        · have := ih h (by omega)
          omega
    · simp at h
def SRx (n : Nat) : Prop := ∀ (σ : St) (r : TR) (room k : Int), roomF n σ r room = some k → 0 ≤ room → room ≤ 1000000 → ∀ (w : World) (ad : List Nat) (v : Value), SX w ad σ → RV ad r v →
  Calls Tryz.prog 82 #[v, .int .i64 room] w fun e w' => e = .returned (.int .i64 k) ∧ SX w' ad σ ∧ Kt ad (fun _ => False) w w'
set_option maxRecDepth 20000 in
set_option maxHeartbeats 2000000 in
theorem room_sx : ∀ n, SRx n := by
  intro n
  induction n with
  | zero => intro σ r room k h; simp [roomF] at h
  | succ n ih =>
    intro σ r room k h h0 h2 w ad v hs hv
    simp only [roomF, Option.bind_eq_some_iff] at h
    obtain ⟨r0, hr, ks, hk, h⟩ := h
    have hr := repF_rp _ hr
    have HK : Hid _ := known_se hr w v hs hv
    have HIH : Hid (∀ (r : TR) (room k : Int), roomF n σ r room = some k → 0 ≤ room → room ≤ 1000000 → ∀ (w : World) (v : Value), SX w ad σ → RV ad r v → Calls Tryz.prog 82 #[v, .int .i64 room] w fun e w' => e = .returned (.int .i64 k) ∧ SX w' ad σ ∧ Kt ad (fun _ => False) w w') := fun r room k h h0 h2 w v => ih σ r room k h h0 h2 w ad v
    have HR : Hid _ := hr.root_of
    have HKS : Hid _ := hk
    obtain ⟨T, u, rfl⟩ := hv.iface
    clear hs hr hv ih hk
    go_enter Tryz.func82, Tryz.ntmps82
    go_wp2_with fail
    refine Calls.mono HK.out ?_
    rintro e w1 ⟨v0, rfl, hv0, hs1, hk1⟩
    clear HK
    have HS1 : Hid _ := hs1
    have HK1 : Hid _ := hk1
    split at h
    · simp only [Option.some.injEq] at h
      subst h
      obtain ⟨T0, u0, f, rv, rfl, hm, hcf, HB⟩ := below0 (w := w1) HR.out hv0 HKS.out
      have HB : Hid _ := HB
      clear hs1 hk1 hv0 HIH HR HKS
      go_wp2_with fail
      refine Calls.mono HB.out ?_
      rintro e w2 ⟨rfl, hk2⟩
      have HK2 : Hid _ := hk2
      clear hk2 HB hm hcf
      go_wp2
      refine wp_loop_rounds 1 ?_
      rw [rounds_succ]
      go_wp2
      go_ret
      exact ⟨rfl, SX.kept HS1.out HK2.out, HK1.out.trans (Kt.of_kept HK2.out)⟩
    · rename_i x
      obtain ⟨T0, u0, f, rv, T1, u1, rfl, hm, hcf, hx, HB⟩ := below1 HS1.out HR.out hv0 HKS.out
      have HB : Hid _ := HB
      have HX : Hid _ := hx
      clear hs1 hk1 hv0 HR HKS hx
      go_wp2_with fail
      refine Calls.mono HB.out ?_
      rintro e w2 ⟨g, rfl, hg, hbl, hk2⟩
      have HK2 : Hid _ := hk2
      clear hk2 HB hm hcf
      have d0 : w2.cell? ⟨g, 0, none⟩ = some (.iface T1 u1) := by simp [World.cell?, hbl]
      clear hbl hg
      have HSF : Hid _ := SX.kept HS1.out HK2.out
      have HKF : Hid _ := HK1.out.trans (Kt.of_kept HK2.out)
      split at h
      · rename_i hlt
        simp only [Option.some.injEq] at h
        subst h
        go_wp2_with fail
        refine wp_loop_rounds 2 ?_
        rw [rounds_succ]
        go_wp2
        go_ret
        exact ⟨rfl, HSF.out, HKF.out⟩
      · rename_i hlt
        have HC : Hid _ := HIH.out x (room - 1) k h (by omega) (by omega) w2 _ HSF.out HX.out
        clear h HIH
        go_wp2_with fail
        refine wp_loop_rounds 2 ?_
        rw [rounds_succ]
        go_wp2_with fail
        refine Calls.mono HC.out ?_
        rintro e w3 ⟨rfl, hs3, hk3⟩
        have HS3 : Hid _ := hs3
        have HK3 : Hid _ := HKF.out.trans hk3
        clear hs3 hk3 HC
        go_wp2
        rw [rounds_succ]
        go_wp2
        go_ret
        exact ⟨rfl, HS3.out, HK3.out⟩
    · rename_i x y
      obtain ⟨T0, u0, f, rv, T1, u1, T2, u2, rfl, hm, hcf, hx, hy, HB⟩ := below2 HS1.out HR.out hv0 HKS.out
      have HB : Hid _ := HB
      have HX : Hid _ := hx
      have HY : Hid _ := hy
      clear hs1 hk1 hv0 HR HKS hx hy
      go_wp2_with fail
      refine Calls.mono HB.out ?_
      rintro e w2 ⟨g, rfl, hg, hbl, hk2⟩
      have HK2 : Hid _ := hk2
      clear hk2 HB hm hcf
      have d0 : w2.cell? ⟨g, 0, none⟩ = some (.iface T1 u1) := by simp [World.cell?, hbl]
      have HBL : Hid _ := hbl
      clear hbl hg
      have HSF : Hid _ := SX.kept HS1.out HK2.out
      have HKF : Hid _ := HK1.out.trans (Kt.of_kept HK2.out)
      split at h
      · rename_i hlt
        simp only [Option.some.injEq] at h
        subst h
        go_wp2_with fail
        refine wp_loop_rounds 3 ?_
        rw [rounds_succ]
        go_wp2
        go_ret
        exact ⟨rfl, HSF.out, HKF.out⟩
      · rename_i hlt
        simp only [Option.bind_eq_some_iff] at h
        obtain ⟨a, ha, h⟩ := h
        have HC : Hid _ := HIH.out x (room - 1) a ha (by omega) (by omega) w2 _ HSF.out HX.out
        have hle := roomF_le n ha (by omega)
        have hle2 : a ≤ 1000000 := by omega
        clear ha
        go_wp2_with fail
        refine wp_loop_rounds 3 ?_
        rw [rounds_succ]
        go_wp2_with fail
        refine Calls.mono HC.out ?_
        rintro e w3 ⟨rfl, hs3, hk3⟩
        have HS3 : Hid _ := hs3
        have hbl3 := hk3.typs HBL.out (fun z => z)
        have d1 : w3.cell? ⟨g, 1, none⟩ = some (.iface T2 u2) := by simp [World.cell?, hbl3]
        have HK3 : Hid _ := HKF.out.trans hk3
        clear hs3 hk3 HC hbl3
        split at h
        · rename_i hlt2
          simp only [Option.some.injEq] at h
          subst h
          go_wp2_with fail
          rw [rounds_succ]
          go_wp2
          go_ret
          exact ⟨rfl, HS3.out, HK3.out⟩
        · rename_i hlt2
          have HC : Hid _ := HIH.out y a k h (by omega) (by omega) w3 _ HS3.out HY.out
          clear h HIH
          go_wp2_with fail
          rw [rounds_succ]
          go_wp2_with fail
          refine Calls.mono HC.out ?_
          rintro e w4 ⟨rfl, hs4, hk4⟩
          have HS4 : Hid _ := hs4
          have HK4 : Hid _ := HK3.out.trans hk4
          clear hs4 hk4 HC
          go_wp2
          rw [rounds_succ]
          go_wp2
          go_ret
          exact ⟨rfl, HS4.out, HK4.out⟩
    · simp at h
set_option maxRecDepth 20000 in
theorem above_sx {σ : St} {r : TR} {big : Bool} (h : bigF σ r = some big) (w : World) (ad : List Nat) (v : Value) (hs : SX w ad σ) (hv : RV ad r v) : Calls Tryz.prog 53 #[.int .i64 120, v] w fun e w' => e = .returned (.bool big) ∧ SX w' ad σ ∧ Kt ad (fun _ => False) w w' := by
  simp only [bigF, Option.bind_eq_some_iff, Option.some.injEq] at h
  obtain ⟨k, hk, rfl⟩ := h
  have HR : Hid _ := room_sx 500 σ r 120 k hk (by omega) (by omega) w ad v hs hv
  obtain ⟨T, u, rfl⟩ := hv.iface
  clear hs hv hk
  go_enter Tryz.func53, Tryz.ntmps53
  go_wp2_with fail
  refine Calls.mono HR.out ?_
  rintro e w1 ⟨rfl, hs1, hk1⟩
  have HS : Hid _ := hs1
  have HK : Hid _ := hk1
  clear hs1 hk1 HR
  go_wp2
  go_ret
  exact ⟨rfl, HS.out, HK.out⟩
end Go.Proofs.YtleenphlgbklmabGreatDoor

namespace Go.Proofs.YtleenphlgbklmabGreatDoor
open Go.RowKit

theorem shT_size2 (names : List ByteArray) (M : Nat) (hM : 4 ≤ M) (hn : ∀ n, (names.getD n { data := #[] }).size ≤ M) {m : Nat} {t : Ty} (h : WT m t) : (shT names t).size ≤ (M + 6) * sz t := by
  induction h with
  | var n hn2 =>
    rw [shT_var]
    have := hn n
    simp only [sz, szs]; omega
  | int => rw [shT_int]; have : ({ data := #[105, 110, 116] } : ByteArray).size = 3 := rfl; simp only [sz, szs]; omega
  | bool => rw [shT_bool]; have : ({ data := #[98, 111, 111, 108] } : ByteArray).size = 4 := rfl; simp only [sz, szs]; omega
  | list a _ ih =>
    rw [shT_list]
    simp only [ByteArray.size_append, sz, szs, Nat.mul_add]
    have h1 : ({ data := #[91] } : ByteArray).size = 1 := rfl
    have h2 : ({ data := #[93] } : ByteArray).size = 1 := rfl
    omega
  | pair a b _ _ ih ih2 =>
    rw [shT_pair]
    simp only [ByteArray.size_append, sz, szs, Nat.mul_add]
    have h1 : ({ data := #[40] } : ByteArray).size = 1 := rfl
    have h2 : ({ data := #[41] } : ByteArray).size = 1 := rfl
    have h3 : ({ data := #[44, 32] } : ByteArray).size = 2 := rfl
    omega
  | fn a b _ _ ih ih2 =>
    rw [shT_fn]
    generalize (a.kind.data.toList == ({ data := #[102, 117, 110] } : ByteArray).data.toList) = q
    simp only [ByteArray.size_append, sz, szs, Nat.mul_add]
    have h1 := brkT_size q (shT names a)
    have h2 : ({ data := #[32, 45, 62, 32] } : ByteArray).size = 4 := rfl
    omega
theorem varsM_idem {m : Nat} {t : Ty} (h : WT m t) : ∀ l l', varsM t l <+: l' → varsM t l' = l' := by
  induction h with
  | var n hn =>
    intro l l' hp
    have hm : n ∈ l' := by
      refine hp.subset ?_
      rw [varsM_leaf]
      split
      · rename_i e
        exact List.contains_iff_mem.1 e
      · simp
    rw [varsM_leaf]
    have : inB l' n = true := List.contains_iff_mem.2 hm
    rw [this]
    rfl
  | int => intro l l' hp; exact varsM_int l'
  | bool => intro l l' hp; exact varsM_bool l'
  | list a _ ih => intro l l' hp; rw [varsM_list] at hp ⊢; exact ih l l' hp
  | pair a b ha hb ih ih2 =>
    intro l l' hp
    rw [varsM_pair] at hp ⊢
    rw [ih l l' ((varsM_pre hb _).trans hp)]
    exact ih2 _ l' hp
  | fn a b ha hb ih ih2 =>
    intro l l' hp
    rw [varsM_fn] at hp ⊢
    rw [ih l l' ((varsM_pre hb _).trans hp)]
    exact ih2 _ l' hp
theorem extract_tail (a b : ByteArray) : (a ++ b).extract a.size (a ++ b).size = b := by
  apply ByteArray.ext
  apply Array.ext'
  rw [ByteArray.size_append, ByteArray.data_extract, ByteArray.data_append]
  have e1 : a.size = a.data.toList.length := by rw [Array.length_toList]; rfl
  have e2 : b.size = b.data.toList.length := by rw [Array.length_toList]; rfl
  have d1 : List.drop a.size a.data.toList = [] := List.drop_eq_nil_of_le (by omega)
  have d2 : List.take b.size b.data.toList = b.data.toList := List.take_of_length_le (by omega)
  simp [List.extract, List.drop_append, d1, d2]
theorem sz_pos (t : Ty) : 1 ≤ sz t := by cases t; simp [sz]
/-- what a writing goes by. -/
structure WE where
  ad : List Nat
  σ : St
  B : Nat
  b : Nat
  pm : Nat
  fv : Value
  F : List ByteArray
  ok : World → List Nat → Prop
  nm : Nat → Prop
  L : List Nat
def WE.TX (E : WE) (w : World) (l : List Nat) (sp : List Sp) (es : List (TR × Nat × Nat)) : Prop := Go.Proofs.YtleenphlgbklmabGreatDoor.TX w E.ad E.σ E.B E.b E.pm E.fv E.F E.ok l sp es
structure WE.Ok (E : WE) : Prop where
  okk : OkK E.ad E.B E.ok
  nmB : ∀ q, E.nm q → q < E.B
  short : ∀ n, (E.F.getD n { data := #[] }).size ≤ 900
def WPost (E : WE) (w w' : World) (t : Ty) (l : List Nat) (sp : List Sp) (es : List (TR × Nat × Nat)) (txt : ByteArray) (n k : Nat) : Prop :=
  ∃ sp' es', E.TX w' (varsM t l) sp' es' ∧ decS sp' = decS sp ++ txt ∧ (decS sp').size ≤ (decS sp).size + n ∧ sp'.length ≤ sp.length + n ∧ (∀ e, e ∈ es' → e ∈ es ∨ ∃ T, Dn E.σ e.1 T ∧ sz T ≤ k) ∧ Kt E.ad (SN E.B E.nm) w w'
def STyp (E : WE) (r : TR) (t : Ty) : Prop := ∀ (w : World) (v : Value) (l : List Nat) (sp : List Sp) (es : List (TR × Nat × Nat)), RV E.ad r v → E.TX w l sp es → varsM t l <+: E.L → (decS sp).size + 1000 * sz t ≤ 2147483647 → sp.length + 1000 * sz t ≤ 1000000000 →
  Calls Tryz.prog 83 #[.pointer (some ⟨E.b, 0, none⟩), v] w fun e w' => e = .returned (.tuple #[]) ∧ WPost E w w' t l sp es (shT E.F t) (1000 * sz t) (sz t)
def SFst (E : WE) (r : TR) (t : Ty) : Prop := ∀ (w : World) (v : Value) (l : List Nat) (sp : List Sp) (es : List (TR × Nat × Nat)), RV E.ad r v → E.TX w l sp es → varsM t l <+: E.L → (decS sp).size + 1000 * sz t ≤ 2147483647 → sp.length + 1000 * sz t ≤ 1000000000 →
  Calls Tryz.prog 126 #[.pointer (some ⟨E.b, 0, none⟩), v] w fun e w' => e = .returned (.tuple #[]) ∧ WPost E w w' t l sp es (shT E.F t) (1000 * sz t) (sz t - 1)
def SLef (E : WE) (r : TR) (t : Ty) : Prop := ∀ (w : World) (v : Value) (l : List Nat) (sp : List Sp) (es : List (TR × Nat × Nat)), RV E.ad r v → E.TX w l sp es → varsM t l <+: E.L → (decS sp).size + 1000 * sz t + 2 ≤ 2147483647 → sp.length + 1000 * sz t + 2 ≤ 1000000000 →
  Calls Tryz.prog 158 #[.pointer (some ⟨E.b, 0, none⟩), v] w fun e w' => e = .returned (.tuple #[]) ∧ WPost E w w' t l sp es (brkT (t.kind.data.toList == ({ data := #[102, 117, 110] } : ByteArray).data.toList) (shT E.F t)) (1000 * sz t + 2) (sz t)
theorem askT_some {r : TR} : ∀ {l : List (TR × Value)} {i j : Nat} {x : Value}, askT r l i = some (j, x) → (r, x) ∈ l := by
  intro l
  induction l with
  | nil => intro i j x h; cases h
  | cons e l ih =>
    intro i j x h
    simp only [askT] at h
    split at h
    · rename_i q
      rw [TR.eqb_iff] at q
      simp at h
      rw [q, ← h.2]
      simp
    · exact List.mem_cons_of_mem _ (ih h)
theorem askT_none {r : TR} : ∀ {l : List (TR × Value)} {i : Nat}, askT r l i = none ↔ ∀ e, e ∈ l → e.1 ≠ r := by
  intro l
  induction l with
  | nil => intro i; simp [askT]
  | cons e l ih =>
    intro i
    simp only [askT]
    constructor
    · intro h
      split at h
      · cases h
      · rename_i q
        intro x hx
        simp at hx
        rcases hx with rfl | hx
        · exact fun z => q (TR.eqb_iff.2 z.symm)
        · exact ih.1 h x hx
    · intro h
      have : r.eqb e.1 = false := TR.eqb_ff.2 (fun z => h e (by simp) z.symm)
      simp only [this, Bool.false_eq_true, if_false]
      exact ih.2 (fun x hx => h x (by simp [hx]))
theorem Tryz.zPiece (w : World) : (zeroValue 200).run Tryz.prog w = .ok (.agg #[.int .i64 0, .int .i64 0]) w := by kernel_rfl
theorem TX.piece {w : World} {ad : List Nat} {σ : St} {B b pm : Nat} {fv : Value} {F : List ByteArray} {ok : World → List Nat → Prop} {l : List Nat} {sp : List Sp} {es : List (TR × Nat × Nat)} (h : TX w ad σ B b pm fv F ok l sp es) (hok : OkK ad B ok) {r : TR} {v : Value} (hv : RV ad r v) {f : Nat} {t : Ty} (hd : Dn σ r t) (hf : f ≤ (decS sp).size) (he : (decS sp).extract f (decS sp).size = shT F t) (hl : varsM t l = l) (o : Obj) (ho : o = .map (tEnts ad (pvE es ++ [(r, .agg #[.int .i64 f, .int .i64 (decS sp).size])]) 0).toArray ((pvE es).length + 1)) :
    TX (mapSet w pm o) ad σ B b pm fv F ok l sp (es ++ [(r, f, (decS sp).size)]) := by
  have hm := h.mp.mp
  have hk : Kt ad (ST B) w (mapSet w pm o) := ⟨rfl, rfl, by simp [mapSet], fun q o' hq hn _ => by
    rw [mapSet_other _ _ _ _ (fun z => hn (by rw [z]; exact h.pB))]
    exact hq⟩
  have hbp : b ≠ pm := fun z => by
    obtain ⟨sv, h1, _⟩ := h.tl.cs
    rw [z, hm] at h1
    cases h1
  refine ⟨?_, ?_, ?_, hok _ _ _ h.ns hk, by simpa [mapSet] using h.bs, h.pB, h.adB, ?_⟩
  · obtain ⟨hB, ⟨sv, h1, h2, h3, h4⟩, h5, h6⟩ := h.tl
    refine ⟨hB, ⟨sv, by rw [mapSet_other _ _ _ _ hbp]; exact h1, ownsRow_same h2 (fun k hk => mapSet_other _ _ _ _ (fun z => h4 (by rw [hk, z]))), h3, h4⟩, h5, h6⟩
  · have := h.mp.put hv (.agg #[.int .i64 f, .int .i64 (decS sp).size])
    rw [ho]
    simpa [pvE] using this
  · obtain ⟨τ, h1, h2⟩ := h.st
    exact ⟨τ, h1.mapSet hm o, h2⟩
  · intro e hmem
    simp at hmem
    rcases hmem with hmem | rfl
    · exact h.pcs e hmem
    · exact ⟨t, hd, hf, Nat.le_refl _, he, hl⟩
theorem tl_ne {w : World} {ad : List Nat} {σ : St} {B b pm : Nat} {fv : Value} {F : List ByteArray} {ok : World → List Nat → Prop} {l : List Nat} {sp : List Sp} {es : List (TR × Nat × Nat)} (h : TX w ad σ B b pm fv F ok l sp es) : pm ≠ b := fun z => by
  obtain ⟨sv, h1, _⟩ := h.tl.cs
  have hm := h.mp.mp
  rw [z, h1] at hm
  cases hm
set_option maxRecDepth 20000 in
set_option maxHeartbeats 1000000 in
theorem typ_hit (E : WE) (hE : E.Ok) {r r0 : TR} {t : Ty} (hr : Rp E.σ r r0) (hd : Dn E.σ r0 t) (w : World) (v : Value) (l : List Nat) (sp : List Sp) (es : List (TR × Nat × Nat)) (hv : RV E.ad r v) (h : E.TX w l sp es) (hn : (decS sp).size + 1000 * sz t ≤ 2147483647) (hl : sp.length + 1000 * sz t ≤ 1000000000) {j : Nat} {x : Value} (ha : askT r0 (pvE es) 0 = some (j, x)) :
    Calls Tryz.prog 83 #[.pointer (some ⟨E.b, 0, none⟩), v] w fun e w' => e = .returned (.tuple #[]) ∧ WPost E w w' t l sp es (shT E.F t) (1000 * sz t) (sz t) := by
  obtain ⟨⟨q, f, u⟩, hmem, hq⟩ := List.mem_map.1 (askT_some ha)
  simp only [Prod.mk.injEq] at hq
  obtain ⟨rfl, rfl⟩ := hq
  obtain ⟨T, h1, h2, h3, h4, h5⟩ := h.pcs _ hmem
  have := h1.det hd
  subst this
  have h2 : f ≤ u := h2
  have h3 : u ≤ (decS sp).size := h3
  have h4 : (decS sp).extract f u = shT E.F T := h4
  have hz := sz_pos T
  have hts : u - f ≤ 1000 * sz T := by
    have e1 := shT_size2 E.F 900 (by decide) hE.short hd.wt
    have e2 : (shT E.F T).size = u - f := by
      rw [← h4]
      simp [ByteArray.size_extract]
      omega
    omega
  have HK : Hid _ := known_se hr w v h.st hv
  have HG : Hid (∀ (w1 : World) (v0 : Value), RV E.ad q v0 → SX w1 E.ad E.σ → Kt E.ad (fun _ => False) w w1 → w1.cell? ⟨E.b, 3, none⟩ = some (.map (some E.pm)) ∧ (Instr.lookup 193 (.map (some E.pm)) v0 true).run Tryz.prog w1 = .ok (.tuple #[.agg #[.int .i64 f, .int .i64 u], .bool true]) w1 ∧ E.TX w1 l sp es) := by
    intro w1 v0 hv0 hs hk
    have hT := h.kn hE.okk hk hs
    refine ⟨hT.tl.c.2.2.1, ?_, hT⟩
    obtain ⟨τ, s1, _⟩ := hs
    have := run_tmlook s1 hv0 hT.mp 193 200 _ Tryz.underlying193 (Tryz.zPiece w1)
    rw [ha] at this
    exact this
  have HA : Hid (∀ (w1 : World), E.TX w1 l sp es → Kt E.ad (SN E.B E.nm) w w1 → Calls Tryz.prog 125 #[.pointer (some ⟨E.b, 0, none⟩), .agg #[.int .i64 f, .int .i64 u]] w1 fun e w' => e = .returned (.tuple #[]) ∧ WPost E w w' T l sp es (shT E.F T) (1000 * sz T) (sz T)) := by
    intro w1 hT hk
    refine (again_any hT.tl hT.bs (lt_of_block hT.mp.mp) (tl_ne hT) f u h2 h3 (by omega) (by omega)).mono ?_
    rintro e w' ⟨rfl, hL, hk', hp⟩
    have hx : decS (sp ++ [.cp f u]) = decS sp ++ shT E.F T := by rw [decS_snoc, ← h4]; rfl
    refine ⟨rfl, sp ++ [.cp f u], es, ?_, hx, ?_, by simp; omega, fun e he => .inl he, hk.trans ((Kt.of_kq hk').mono (fun _ _ z => .inl z))⟩
    · rw [h5]
      exact hT.more hE.okk hk' hL hp
    · rw [hx, ByteArray.size_append]
      have e2 : (shT E.F T).size = u - f := by
        rw [← h4]
        simp [ByteArray.size_extract]
        omega
      omega
  clear h hmem h1 h4 h5 ha hd hr hv
  go_enter Tryz.func83, Tryz.ntmps83
  go_wp2_with fail
  refine Calls.mono HK.out ?_
  rintro e w1 ⟨v0, rfl, hv0, hs1, hk1⟩
  obtain ⟨T0, u0, rfl⟩ := hv0.iface
  obtain ⟨g1, g2, g3⟩ := HG.out w1 _ hv0 hs1 hk1
  have hka : Kept w1 (w1.alloc (.cells #[.int .i64 f, .int .i64 u] 200)) := Kept.alloc _ _
  have HA1 : Hid _ := HA.out _ (g3.kept hE.okk hka) ((hk1.mono (fun _ _ z => z.elim)).trans (Kt.of_kept hka))
  clear HG HA HK hs1 hv0 g3 hka
  go_wp2_with fail
  refine Calls.mono HA1.out ?_
  rintro e w2 ⟨rfl, hW⟩
  have HW : Hid _ := hW
  clear hW HA1
  go_wp2
  exact bodyPost_ret (results_none Tryz.results83 _ _ _) rfl ⟨rfl, HW.out⟩
set_option maxRecDepth 20000 in
set_option maxHeartbeats 1000000 in
theorem typ_miss (E : WE) (hE : E.Ok) {r r0 : TR} {t : Ty} (hr : Rp E.σ r r0) (hd : Dn E.σ r0 t) (hF : SFst E r0 t) (w : World) (v : Value) (l : List Nat) (sp : List Sp) (es : List (TR × Nat × Nat)) (hv : RV E.ad r v) (h : E.TX w l sp es) (hp : varsM t l <+: E.L) (hn : (decS sp).size + 1000 * sz t ≤ 2147483647) (hl : sp.length + 1000 * sz t ≤ 1000000000) (ha : askT r0 (pvE es) 0 = none) :
    Calls Tryz.prog 83 #[.pointer (some ⟨E.b, 0, none⟩), v] w fun e w' => e = .returned (.tuple #[]) ∧ WPost E w w' t l sp es (shT E.F t) (1000 * sz t) (sz t) := by
  have hz := sz_pos t
  have HK : Hid _ := known_se hr w v h.st hv
  have HG : Hid (∀ (w1 : World) (v0 : Value), RV E.ad r0 v0 → SX w1 E.ad E.σ → Kt E.ad (fun _ => False) w w1 → w1.cell? ⟨E.b, 3, none⟩ = some (.map (some E.pm)) ∧ w1.cell? ⟨E.b, 2, none⟩ = some (.int .i64 (decS sp).size) ∧ (Instr.lookup 193 (.map (some E.pm)) v0 true).run Tryz.prog w1 = .ok (.tuple #[.agg #[.int .i64 0, .int .i64 0], .bool false]) w1 ∧ E.TX w1 l sp es) := by
    intro w1 v0 hv0 hs hk
    have hT := h.kn hE.okk hk hs
    refine ⟨hT.tl.c.2.2.1, hT.tl.c.2.1, ?_, hT⟩
    obtain ⟨τ, s1, _⟩ := hs
    have := run_tmlook s1 hv0 hT.mp 193 200 _ Tryz.underlying193 (Tryz.zPiece w1)
    rw [ha] at this
    exact this
  have HP : Hid (∀ (w2 : World) (v0 : Value) (sp' : List Sp) (es' : List (TR × Nat × Nat)), RV E.ad r0 v0 → E.TX w2 (varsM t l) sp' es' → decS sp' = decS sp ++ shT E.F t → (∀ e, e ∈ es' → e ∈ es ∨ ∃ T, Dn E.σ e.1 T ∧ sz T ≤ sz t - 1) → w2.cell? ⟨E.b, 3, none⟩ = some (.map (some E.pm)) ∧ w2.cell? ⟨E.b, 2, none⟩ = some (.int .i64 (decS sp').size) ∧ (Instr.mapUpdate 193 (.map (some E.pm)) v0 (.agg #[.int .i64 (decS sp).size, .int .i64 (decS sp').size])).run Tryz.prog w2 = .ok () (mapSet w2 E.pm (.map (tEnts E.ad (pvE es' ++ [(r0, .agg #[.int .i64 (decS sp).size, .int .i64 (decS sp').size])]) 0).toArray ((pvE es').length + 1))) ∧ E.TX (mapSet w2 E.pm (.map (tEnts E.ad (pvE es' ++ [(r0, .agg #[.int .i64 (decS sp).size, .int .i64 (decS sp').size])]) 0).toArray ((pvE es').length + 1))) (varsM t l) sp' (es' ++ [(r0, (decS sp).size, (decS sp').size)]) ∧ Kt E.ad (SN E.B E.nm) w2 (mapSet w2 E.pm (.map (tEnts E.ad (pvE es' ++ [(r0, .agg #[.int .i64 (decS sp).size, .int .i64 (decS sp').size])]) 0).toArray ((pvE es').length + 1)))) := by
    intro w2 v0 sp' es' hv0 hT hx hes
    have hno : askT r0 (pvE es') 0 = none := by
      rw [askT_none]
      intro e he z
      obtain ⟨e', he', rfl⟩ := List.mem_map.1 he
      have z : e'.1 = r0 := z
      rcases hes e' he' with q | ⟨T, q1, q2⟩
      · exact (askT_none.1 ha) _ (List.mem_map_of_mem q) z
      · rw [z] at q1
        have := q1.det hd
        subst this
        omega
    refine ⟨hT.tl.c.2.2.1, hT.tl.c.2.1, ?_, ?_, ?_⟩
    · obtain ⟨τ, s1, _⟩ := hT.st
      exact run_tmput s1 hv0 hT.mp 193 200 _ Tryz.underlying193 hno
    · refine TX.piece hT hE.okk hv0 hd (by rw [hx, ByteArray.size_append]; omega) ?_ (varsM_idem hd.wt l _ (List.prefix_refl _)) _ rfl
      rw [hx]
      exact extract_tail _ _
    · refine ⟨rfl, rfl, by simp [mapSet], fun q o' hq hn _ => ?_⟩
      rw [mapSet_other _ _ _ _ (fun z => hn (.inl (by rw [z]; exact hT.pB)))]
      exact hq
  have HF : Hid _ := hF
  clear hr hv hF h ha
  go_enter Tryz.func83, Tryz.ntmps83
  go_wp2_with fail
  refine Calls.mono HK.out ?_
  rintro e w1 ⟨v0, rfl, hv0, hs1, hk1⟩
  obtain ⟨T0, u0, rfl⟩ := hv0.iface
  obtain ⟨g1, g2, g3, g4⟩ := HG.out w1 _ hv0 hs1 hk1
  clear HG HK hs1
  have hka : Kept w1 (w1.alloc (.cells #[.int .i64 0, .int .i64 0] 200)) := Kept.alloc _ _
  have g4 := g4.kept hE.okk hka
  have hk2 : Kt E.ad (SN E.B E.nm) w (w1.alloc (.cells #[.int .i64 0, .int .i64 0] 200)) := (hk1.mono (fun _ _ z => z.elim)).trans (Kt.of_kept hka)
  have c2 := g4.tl.c.2.1
  have HFF : Hid _ := HF.out _ _ _ _ _ hv0 g4 hp hn hl
  clear hka g4 HF hk1
  go_wp2_with fail
  refine Calls.mono HFF.out ?_
  rintro e w2 ⟨rfl, sp', es', hT, hx, hs1, hs2, hes, hk3⟩
  have hkd : Kept w2 w2.drew := ⟨rfl, rfl, Nat.le_refl _, fun _ _ => rfl⟩
  obtain ⟨p1, p2, p3, p4, p5⟩ := HP.out w2.drew _ sp' es' hv0 (hT.kept hE.okk hkd) hx hes
  have p1 : w2.cell? ⟨E.b, 3, none⟩ = some (.map (some E.pm)) := p1
  have p2 : w2.cell? ⟨E.b, 2, none⟩ = some (.int .i64 (decS sp').size) := p2
  have p5 := (Kt.of_kept (ad := E.ad) (S := SN E.B E.nm) hkd).trans p5
  have HX : Hid _ := hx
  have HES : Hid _ := hes
  have P4 : Hid _ := p4
  clear HFF HP hT hx hes hkd p4
  go_wp2_with fail
  go_region
  go_end0
  refine ⟨rfl, sp', _, P4.out, HX.out, hs1, hs2, ?_, (hk2.trans hk3).trans p5⟩
  intro e he
  simp at he
  rcases he with he | rfl
  · rcases HES.out e he with q | ⟨T, q1, q2⟩
    · exact .inl q
    · exact .inr ⟨T, q1, by omega⟩
  · exact .inr ⟨t, hd, Nat.le_refl _⟩
theorem typ_of (E : WE) (hE : E.Ok) {r r0 : TR} {t : Ty} (hr : Rp E.σ r r0) (hd : Dn E.σ r0 t) (hF : SFst E r0 t) : STyp E r t := by
  intro w v l sp es hv h hp hn hl
  cases ha : askT r0 (pvE es) 0 with
  | none => exact typ_miss E hE hr hd hF w v l sp es hv h hp hn hl ha
  | some x => exact typ_hit E hE hr hd w v l sp es hv h hn hl ha
end Go.Proofs.YtleenphlgbklmabGreatDoor

namespace Go.Proofs.YtleenphlgbklmabGreatDoor
open Go.RowKit

theorem Tryz.zS0 (w : World) : (zeroValue 310).run Tryz.prog w = .ok (.agg #[]) w := by kernel_rfl
/-- a set of types, as a map's entries. -/
def pvP (l : List TR) : List (TR × Value) := l.map fun r => (r, .agg #[])
theorem ask_mem (r : TR) (l : List TR) : ∀ i, (memT r l = true → ∃ j, askT r (pvP l) i = some (j, .agg #[])) ∧ (memT r l = false → askT r (pvP l) i = none) := by
  induction l with
  | nil => intro i; simp [memT, pvP, askT]
  | cons c l ih =>
    intro i
    have h := ih (i + 1)
    cases hb : r.eqb c with
    | true => simp [memT, pvP, askT, hb]
    | false => simpa [memT, pvP, askT, hb] using h
theorem look_ps {w : World} {ad : List Nat} {σ : St} (h : SX w ad σ) {r : TR} {v : Value} (hv : RV ad r v) {mb : Nat} {l : List TR} (hm : TMp w mb ad (pvP l)) :
    (Instr.lookup 232 (.map (some mb)) v true).run Tryz.prog w = .ok (.tuple #[.agg #[], .bool (memT r l)]) w := by
  obtain ⟨τ, s1, _⟩ := h
  have := run_tmlook s1 hv hm 232 310 _ Tryz.underlying232 (Tryz.zS0 w)
  rw [this]
  cases hb : memT r l with
  | true =>
    obtain ⟨j, hj⟩ := (ask_mem r l 0).1 hb
    rw [hj]
  | false => rw [(ask_mem r l 0).2 hb]
set_option maxRecDepth 20000 in
theorem has_ps {w : World} {ad : List Nat} {σ : St} (h : SX w ad σ) {r : TR} {v : Value} (hv : RV ad r v) {mb : Nat} {l : List TR} (hm : TMp w mb ad (pvP l)) : Calls Tryz.prog 140 #[.map (some mb), v] w fun e w' => e = .returned (.bool (memT r l)) ∧ Kept w w' := by
  have hl := look_ps h hv hm
  obtain ⟨T, u, rfl⟩ := hv.iface
  clear h hv hm
  go_enter Tryz.func140, Tryz.ntmps140
  go_wp2
  go_ret
  exact ⟨rfl, Kept.alloc _ _⟩
theorem Kt.mapset {ad : List Nat} {w : World} {mb : Nat} {es : Array MapEntry} {n : Nat} (hm : w.heap[mb]? = some (.map es n)) (o : Obj) : Kt ad (fun q => q = mb) w (mapSet w mb o) :=
  ⟨rfl, rfl, by simp [mapSet], fun q _ hq hn _ => (mapSet_other _ _ _ _ hn).trans hq⟩
theorem SX.mapSet {w : World} {ad : List Nat} {σ : St} (h : SX w ad σ) {mb : Nat} {es : Array MapEntry} {n : Nat} (hm : w.heap[mb]? = some (.map es n)) (o : Obj) : SX (Go.Proofs.YtleenphlgbklmabGreatDoor.mapSet w mb o) ad σ := by
  obtain ⟨τ, s1, s2⟩ := h
  exact ⟨τ, s1.mapSet hm o, s2⟩
theorem TMp.keptP {w w' : World} {mb : Nat} {ad : List Nat} {l : List (TR × Value)} (h : TMp w mb ad l) (k : Kept w w') : TMp w' mb ad l := ⟨k.blk h.mp, h.ok⟩
end Go.Proofs.YtleenphlgbklmabGreatDoor

namespace Go.Proofs.YtleenphlgbklmabGreatDoor
open Go.RowKit

theorem Tryz.taBB (v : Value) (w : World) : (Instr.typeAssert (.iface 271 (.agg #[v])) 77 271 true).run Tryz.prog w = .ok (.tuple #[.agg #[v], .bool true]) w := by kernel_rfl
theorem Tryz.taVB (v : Value) (w : World) : (Instr.typeAssert (.iface 124 v) 77 271 true).run Tryz.prog w = .ok (.tuple #[.agg #[.string { data := #[] }], .bool false]) w := by kernel_rfl
theorem Tryz.taLB (v : Value) (w : World) : (Instr.typeAssert (.iface 149 v) 77 271 true).run Tryz.prog w = .ok (.tuple #[.agg #[.string { data := #[] }], .bool false]) w := by kernel_rfl
theorem Tryz.taPB (v : Value) (w : World) : (Instr.typeAssert (.iface 153 v) 77 271 true).run Tryz.prog w = .ok (.tuple #[.agg #[.string { data := #[] }], .bool false]) w := by kernel_rfl
theorem Tryz.taAB (v : Value) (w : World) : (Instr.typeAssert (.iface 157 v) 77 271 true).run Tryz.prog w = .ok (.tuple #[.agg #[.string { data := #[] }], .bool false]) w := by kernel_rfl
theorem Tryz.taVV (v : Value) (w : World) : (Instr.typeAssert (.iface 124 v) 77 124 true).run Tryz.prog w = .ok (.tuple #[v, .bool true]) w := by kernel_rfl
theorem Tryz.taVL (v : Value) (w : World) : (Instr.typeAssert (.iface 124 v) 77 149 true).run Tryz.prog w = .ok (.tuple #[.pointer none, .bool false]) w := by kernel_rfl
theorem Tryz.taVP (v : Value) (w : World) : (Instr.typeAssert (.iface 124 v) 77 153 true).run Tryz.prog w = .ok (.tuple #[.pointer none, .bool false]) w := by kernel_rfl
theorem Tryz.taVA (v : Value) (w : World) : (Instr.typeAssert (.iface 124 v) 77 157 true).run Tryz.prog w = .ok (.tuple #[.pointer none, .bool false]) w := by kernel_rfl
theorem Tryz.taLV (v : Value) (w : World) : (Instr.typeAssert (.iface 149 v) 77 124 true).run Tryz.prog w = .ok (.tuple #[.pointer none, .bool false]) w := by kernel_rfl
theorem Tryz.taLL (v : Value) (w : World) : (Instr.typeAssert (.iface 149 v) 77 149 true).run Tryz.prog w = .ok (.tuple #[v, .bool true]) w := by kernel_rfl
theorem Tryz.taLP (v : Value) (w : World) : (Instr.typeAssert (.iface 149 v) 77 153 true).run Tryz.prog w = .ok (.tuple #[.pointer none, .bool false]) w := by kernel_rfl
theorem Tryz.taLA (v : Value) (w : World) : (Instr.typeAssert (.iface 149 v) 77 157 true).run Tryz.prog w = .ok (.tuple #[.pointer none, .bool false]) w := by kernel_rfl
theorem Tryz.taPV (v : Value) (w : World) : (Instr.typeAssert (.iface 153 v) 77 124 true).run Tryz.prog w = .ok (.tuple #[.pointer none, .bool false]) w := by kernel_rfl
theorem Tryz.taPL (v : Value) (w : World) : (Instr.typeAssert (.iface 153 v) 77 149 true).run Tryz.prog w = .ok (.tuple #[.pointer none, .bool false]) w := by kernel_rfl
theorem Tryz.taPP (v : Value) (w : World) : (Instr.typeAssert (.iface 153 v) 77 153 true).run Tryz.prog w = .ok (.tuple #[v, .bool true]) w := by kernel_rfl
theorem Tryz.taPA (v : Value) (w : World) : (Instr.typeAssert (.iface 153 v) 77 157 true).run Tryz.prog w = .ok (.tuple #[.pointer none, .bool false]) w := by kernel_rfl
theorem Tryz.taAV (v : Value) (w : World) : (Instr.typeAssert (.iface 157 v) 77 124 true).run Tryz.prog w = .ok (.tuple #[.pointer none, .bool false]) w := by kernel_rfl
theorem Tryz.taAL (v : Value) (w : World) : (Instr.typeAssert (.iface 157 v) 77 149 true).run Tryz.prog w = .ok (.tuple #[.pointer none, .bool false]) w := by kernel_rfl
theorem Tryz.taAP (v : Value) (w : World) : (Instr.typeAssert (.iface 157 v) 77 153 true).run Tryz.prog w = .ok (.tuple #[.pointer none, .bool false]) w := by kernel_rfl
theorem Tryz.taAA (v : Value) (w : World) : (Instr.typeAssert (.iface 157 v) 77 157 true).run Tryz.prog w = .ok (.tuple #[v, .bool true]) w := by kernel_rfl
theorem Tryz.taBA (v : Value) (w : World) : (Instr.typeAssert (.iface 271 v) 77 157 true).run Tryz.prog w = .ok (.tuple #[.pointer none, .bool false]) w := by kernel_rfl
end Go.Proofs.YtleenphlgbklmabGreatDoor

namespace Go.Proofs.YtleenphlgbklmabGreatDoor
open Go.RowKit

/-- the faults lie ahead of the store. -/
structure GA (A : Nat → Addr) (B : Nat) (ad : List Nat) (w : World) : Prop where
  glb : Glb A w
  lo : ∀ q, q ∈ ad → B ≤ q
  sz : B ≤ w.heap.size
  ab : ∀ k, k < 8 → (A k).block < B
  gb : 0 < B ∧ 1 < B ∧ 2 < B ∧ 3 < B ∧ 4 < B ∧ 5 < B ∧ 6 < B ∧ 7 < B ∧ 8 < B
theorem GA.start {A : Nat → Addr} {w : World} (h : Glb A w) : GA A w.heap.size [] w :=
  ⟨h, by simp, Nat.le_refl _, fun k hk => by
    obtain ⟨c, t, e⟩ := h.blk k hk
    exact lt_of_block e, World.block_lt_of_cell? _ _ h.c0, World.block_lt_of_cell? _ _ h.c1, World.block_lt_of_cell? _ _ h.c2, World.block_lt_of_cell? _ _ h.c3, World.block_lt_of_cell? _ _ h.c4, World.block_lt_of_cell? _ _ h.c5, World.block_lt_of_cell? _ _ h.c6, World.block_lt_of_cell? _ _ h.c7, World.block_lt_of_cell? _ _ h.et⟩
theorem Glb.low {A : Nat → Addr} {w w' : World} {B : Nat} (h : Glb A w) (hab : ∀ k, k < 8 → (A k).block < B) (hgb : 0 < B ∧ 1 < B ∧ 2 < B ∧ 3 < B ∧ 4 < B ∧ 5 < B ∧ 6 < B ∧ 7 < B ∧ 8 < B) (hk : ∀ q, q < B → w'.heap[q]? = w.heap[q]?) : Glb A w' := by
  obtain ⟨b0, b1, b2, b3, b4, b5, b6, b7, b8⟩ := hgb
  exact ⟨fun k hk' => by
    obtain ⟨c, t, e⟩ := h.blk k hk'
    exact ⟨c, t, (hk _ (hab k hk')).trans e⟩, h.ne, (World.cell?_of_block (hk _ b0)).trans h.c0, (World.cell?_of_block (hk _ b1)).trans h.c1, (World.cell?_of_block (hk _ b2)).trans h.c2, (World.cell?_of_block (hk _ b3)).trans h.c3, (World.cell?_of_block (hk _ b4)).trans h.c4, (World.cell?_of_block (hk _ b5)).trans h.c5, (World.cell?_of_block (hk _ b6)).trans h.c6, (World.cell?_of_block (hk _ b7)).trans h.c7, (World.cell?_of_block (hk _ b8)).trans h.et⟩
theorem GA.low {A : Nat → Addr} {B : Nat} {ad : List Nat} {w w' : World} (h : GA A B ad w) (hs : w.heap.size ≤ w'.heap.size) (hk : ∀ q, q < B → w'.heap[q]? = w.heap[q]?) : GA A B ad w' := ⟨h.glb.low h.ab h.gb hk, h.lo, Nat.le_trans h.sz hs, h.ab, h.gb⟩
theorem Kt.low {ad : List Nat} {S : Nat → Prop} {w w' : World} {B : Nat} (h : Kt ad S w w') (hB : B ≤ w.heap.size) (hl : ∀ q, q ∈ ad → B ≤ q) (hS : ∀ q, S q → B ≤ q) : ∀ q, q < B → w'.heap[q]? = w.heap[q]? := fun q hq => by
  have e : w.heap[q]? = some (w.heap[q]'(by omega)) := by simp
  rw [e]
  exact h.blk0 q _ e (fun z => by have := hS q z; omega) (fun _ z => by have := hl q z; omega)
theorem GA.kt {A : Nat → Addr} {B : Nat} {ad : List Nat} {S : Nat → Prop} {w w' : World} (h : GA A B ad w) (k : Kt ad S w w') (hS : ∀ q, S q → B ≤ q) : GA A B ad w' := h.low k.size (k.low h.sz h.lo hS)
theorem GA.kt0 {A : Nat → Addr} {B : Nat} {ad : List Nat} {w w' : World} (h : GA A B ad w) (k : Kt ad (fun _ => False) w w') : GA A B ad w' := h.kt k (fun _ z => z.elim)
theorem GA.kept {A : Nat → Addr} {B : Nat} {ad : List Nat} {w w' : World} (h : GA A B ad w) (k : Kept w w') : GA A B ad w' := h.kt0 (Kt.of_kept k)
/-- a fault is thrown. -/
def Thr (A : Nat → Addr) (j : Nat) (e : Ending) : Prop := e = thrown (.iface 342 (.pointer (some (A j))))
theorem Tryz.tbBV (v : Value) (w : World) : (Instr.typeAssert (.iface 271 v) 77 124 true).run Tryz.prog w = .ok (.tuple #[.pointer none, .bool false]) w := by kernel_rfl
theorem Tryz.tbBL (v : Value) (w : World) : (Instr.typeAssert (.iface 271 v) 77 149 true).run Tryz.prog w = .ok (.tuple #[.pointer none, .bool false]) w := by kernel_rfl
theorem Tryz.tbBP (v : Value) (w : World) : (Instr.typeAssert (.iface 271 v) 77 153 true).run Tryz.prog w = .ok (.tuple #[.pointer none, .bool false]) w := by kernel_rfl
def kdB (l : Kd) : TR → Bool
  | .nd k _ => k.eqb l
  | _ => false
theorem ta_kd (k l : Kd) (v : Value) (w : World) : (Instr.typeAssert (.iface k.tp v) 77 l.tp true).run Tryz.prog w = .ok (.tuple #[if k.eqb l then v else .pointer none, .bool (k.eqb l)]) w := by
  cases k <;> cases l
  · exact Tryz.taVV v w
  · exact Tryz.taVL v w
  · exact Tryz.taVP v w
  · exact Tryz.taVA v w
  · exact Tryz.taLV v w
  · exact Tryz.taLL v w
  · exact Tryz.taLP v w
  · exact Tryz.taLA v w
  · exact Tryz.taPV v w
  · exact Tryz.taPL v w
  · exact Tryz.taPP v w
  · exact Tryz.taPA v w
  · exact Tryz.taAV v w
  · exact Tryz.taAL v w
  · exact Tryz.taAP v w
  · exact Tryz.taAA v w
theorem ta_tr {ad : List Nat} {r : TR} {v : Value} (hv : RV ad r v) (l : Kd) : ∃ p, ∀ w, (Instr.typeAssert v 77 l.tp true).run Tryz.prog w = .ok (.tuple #[p, .bool (kdB l r)]) w := by
  cases r with
  | int =>
    rw [show v = _ from hv]
    cases l
    · exact ⟨_, Tryz.tbBV _⟩
    · exact ⟨_, Tryz.tbBL _⟩
    · exact ⟨_, Tryz.tbBP _⟩
    · exact ⟨_, Tryz.taBA _⟩
  | bool =>
    rw [show v = _ from hv]
    cases l
    · exact ⟨_, Tryz.tbBV _⟩
    · exact ⟨_, Tryz.tbBL _⟩
    · exact ⟨_, Tryz.tbBP _⟩
    · exact ⟨_, Tryz.taBA _⟩
  | nd k i =>
    obtain ⟨b, hb, rfl⟩ := hv
    exact ⟨_, ta_kd k l _⟩
theorem ta_var {ad : List Nat} {r : TR} {v : Value} (hv : RV ad r v) {i : Nat} (hi : isVr r = some i) : ∃ b, ad[i]? = some b ∧ v = .iface 124 (.pointer (some ⟨b, 0, none⟩)) ∧ r = .nd .vr i ∧ ∀ w, (Instr.typeAssert v 77 124 true).run Tryz.prog w = .ok (.tuple #[.pointer (some ⟨b, 0, none⟩), .bool true]) w := by
  cases r with
  | int => simp [isVr] at hi
  | bool => simp [isVr] at hi
  | nd k j =>
    cases k <;> simp [isVr] at hi
    subst hi
    obtain ⟨b, hb, rfl⟩ := hv
    exact ⟨b, hb, rfl, rfl, Tryz.taVV _⟩
theorem ta_not {ad : List Nat} {r : TR} {v : Value} (hv : RV ad r v) (hi : isVr r = none) : ∃ p, ∀ w, (Instr.typeAssert v 77 124 true).run Tryz.prog w = .ok (.tuple #[p, .bool false]) w := by
  obtain ⟨p, hp⟩ := ta_tr hv .vr
  have : kdB .vr r = false := by
    cases r with
    | int => rfl
    | bool => rfl
    | nd k i => cases k <;> first | rfl | simp [isVr] at hi
  rw [this] at hp
  exact ⟨p, hp⟩
end Go.Proofs.YtleenphlgbklmabGreatDoor
