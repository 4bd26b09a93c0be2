import Derived.Test.YtleenphlgbklmabGreatDoorZTEn
import Derived.Test.YtleenphlgbklmabGreatDoorZTxE
import Derived.Test.YtleenphlgbklmabGreatDoorZPRoom
import Derived.Test.YtleenphlgbklmabGreatDoorZPEq
import Derived.Test.YtleenphlgbklmabGreatDoorZPTokAt
set_option linter.unusedVariables false
set_option linter.unusedSimpArgs false
namespace Go.Proofs.YtleenphlgbklmabGreatDoor
open Go.RowKit

set_option maxRecDepth 20000 in
theorem bel_var (v : Value) (w : World) : Calls Tryz.prog 222 #[v] w fun e w' => e = .returned (.slice none 0 0) ∧ Kept w w' := by
  go_enter Tryz.func222, Tryz.ntmps222
  go_wp2
  go_ret
  exact ⟨rfl, Kept.refl _⟩
set_option maxRecDepth 20000 in
theorem bel_basic (v : Value) (w : World) : Calls Tryz.prog 243 #[.agg #[v]] w fun e w' => e = .returned (.slice none 0 0) ∧ Kept w w' := by
  go_enter Tryz.func243, Tryz.ntmps243
  go_wp2
  go_ret
  exact ⟨rfl, Kept.alloc _ _⟩
theorem Tryz.cfBB (v : Value) (w : World) : (callFunc 243 #[v]).run Tryz.prog w = .ok (.enter 243 #[v]) w := by kernel_rfl
theorem Tryz.cfVB (v : Value) (w : World) : (callFunc 222 #[v]).run Tryz.prog w = .ok (.enter 222 #[v]) w := by kernel_rfl
theorem Tryz.cfLB (v : Value) (w : World) : (callFunc 227 #[v]).run Tryz.prog w = .ok (.enter 227 #[v]) w := by kernel_rfl
theorem Tryz.cfPB (v : Value) (w : World) : (callFunc 228 #[v]).run Tryz.prog w = .ok (.enter 228 #[v]) w := by kernel_rfl
theorem Tryz.cfAB (v : Value) (w : World) : (callFunc 229 #[v]).run Tryz.prog w = .ok (.enter 229 #[v]) w := by kernel_rfl
theorem kids_nd {σ : St} {k : Kd} {i : Nat} {ks : List TR} (h : kidsF σ (.nd k i) = some ks) (hr : Rp σ (.nd k i) (.nd k i)) :
    (k = .vr ∧ ks = [] ∧ ∃ nm g, σ[i]? = some ⟨.vr nm g, none⟩) ∨ (∃ x, k = .ls ∧ ks = [x] ∧ σ[i]? = some ⟨.ls x, none⟩) ∨ (∃ x y, k = .pr ∧ ks = [x, y] ∧ σ[i]? = some ⟨.pr x y, none⟩) ∨ (∃ x y, k = .ar ∧ ks = [x, y] ∧ σ[i]? = some ⟨.ar x y, none⟩) := by
  obtain ⟨nk, rfl, hi⟩ := hr.rt
  simp only [kidsF, hi] at h
  cases nk with
  | vr nm g => simp only [Option.some.injEq] at h; exact .inl ⟨rfl, h.symm, nm, g, hi⟩
  | ls x => simp only [Option.some.injEq] at h; exact .inr (.inl ⟨x, rfl, h.symm, hi⟩)
  | pr x y => simp only [Option.some.injEq] at h; exact .inr (.inr (.inl ⟨x, y, rfl, h.symm, hi⟩))
  | ar x y => simp only [Option.some.injEq] at h; exact .inr (.inr (.inr ⟨x, y, rfl, h.symm, hi⟩))
/-- the block of a node that is not found to be another. -/
theorem SX.blk {w : World} {ad : List Nat} {σ : St} (hs : SX w ad σ) {i b : Nat} {nk : NK} (hi : σ[i]? = some ⟨nk, none⟩) (hb : ad[i]? = some b) : ∃ o, w.heap[b]? = some o ∧ NBk ad nk .nilIface o := by
  obtain ⟨τ, h1, h2⟩ := hs
  obtain ⟨sv, o, h3, h4, h5⟩ := h1.blk i nk none b (h2.root hi) hb
  rw [show sv = _ from h4] at h5
  exact ⟨o, h3, h5⟩
theorem below0 {w : World} {ad : List Nat} {σ : St} {r0 : TR} {v0 : Value} (hr : Rp σ r0 r0) (hv : RV ad r0 v0) (hk : kidsF σ r0 = some []) :
    ∃ T u f rv, v0 = .iface T u ∧ (Go.method 473 T u "schemes/infer.below").run Tryz.prog w = .ok (f, rv) w ∧ (callFunc f #[rv]).run Tryz.prog w = .ok (.enter f #[rv]) w ∧ Calls Tryz.prog f #[rv] w fun e w' => e = .returned (.slice none 0 0) ∧ Kept w w' := by
  cases r0 with
  | int => exact ⟨_, _, _, _, hv, Tryz.mBB _ w, Tryz.cfBB _ w, bel_basic _ w⟩
  | bool => exact ⟨_, _, _, _, hv, Tryz.mBB _ w, Tryz.cfBB _ w, bel_basic _ w⟩
  | nd k i =>
    obtain ⟨b, hb, rfl⟩ := hv
    rcases kids_nd hk hr with ⟨rfl, _, _⟩ | ⟨x, _, e, _⟩ | ⟨x, y, _, e, _⟩ | ⟨x, y, _, e, _⟩
    · exact ⟨_, _, _, _, rfl, Tryz.mVB _ w, Tryz.cfVB _ w, bel_var _ w⟩
    · cases e
    · cases e
    · cases e
theorem below1 {w : World} {ad : List Nat} {σ : St} {r0 x : TR} {v0 : Value} (hs : SX w ad σ) (hr : Rp σ r0 r0) (hv : RV ad r0 v0) (hk : kidsF σ r0 = some [x]) :
    ∃ T u f rv T1 u1, v0 = .iface T u ∧ (Go.method 473 T u "schemes/infer.below").run Tryz.prog w = .ok (f, rv) w ∧ (callFunc f #[rv]).run Tryz.prog w = .ok (.enter f #[rv]) w ∧ RV ad x (.iface T1 u1) ∧ Calls Tryz.prog f #[rv] w fun e w' => ∃ g, e = .returned (.slice (some ⟨g, 0, none⟩) 1 1) ∧ w.heap.size ≤ g ∧ w'.heap[g]? = some (.cells #[.iface T1 u1] 77 (0, 0)) ∧ Kept w w' := by
  cases r0 with
  | int => simp [kidsF] at hk
  | bool => simp [kidsF] at hk
  | nd k i =>
    obtain ⟨b, hb, rfl⟩ := hv
    rcases kids_nd hk hr with ⟨_, e, _⟩ | ⟨x, rfl, e, hi⟩ | ⟨x, y, _, e, _⟩ | ⟨x, y, _, e, _⟩
    · cases e
    · simp only [List.cons.injEq, and_true] at e
      subst e
      obtain ⟨o, ho, p, hp, rfl⟩ := hs.blk hi hb
      obtain ⟨T1, u1, rfl⟩ := hp.iface
      refine ⟨_, _, _, _, T1, u1, rfl, Tryz.mLB _ w, Tryz.cfLB _ w, hp, (below_list w b T1 u1 ho).mono ?_⟩
      rintro e w' ⟨rfl, rfl⟩
      exact ⟨_, rfl, Nat.le_refl _, heap_alloc_new _ _, Kept.alloc _ _⟩
    · cases e
    · cases e
theorem below2 {w : World} {ad : List Nat} {σ : St} {r0 x y : TR} {v0 : Value} (hs : SX w ad σ) (hr : Rp σ r0 r0) (hv : RV ad r0 v0) (hk : kidsF σ r0 = some [x, y]) :
    ∃ T u f rv T1 u1 T2 u2, v0 = .iface T u ∧ (Go.method 473 T u "schemes/infer.below").run Tryz.prog w = .ok (f, rv) w ∧ (callFunc f #[rv]).run Tryz.prog w = .ok (.enter f #[rv]) w ∧ RV ad x (.iface T1 u1) ∧ RV ad y (.iface T2 u2) ∧ Calls Tryz.prog f #[rv] w fun e w' => ∃ g, e = .returned (.slice (some ⟨g, 0, none⟩) 2 2) ∧ w.heap.size ≤ g ∧ w'.heap[g]? = some (.cells #[.iface T1 u1, .iface T2 u2] 77 (0, 0)) ∧ Kept w w' := by
  cases r0 with
  | int => simp [kidsF] at hk
  | bool => simp [kidsF] at hk
  | nd k i =>
    obtain ⟨b, hb, rfl⟩ := hv
    rcases kids_nd hk hr with ⟨_, e, _⟩ | ⟨x, _, e, hi⟩ | ⟨x, y, rfl, e, hi⟩ | ⟨x, y, rfl, e, hi⟩
    · cases e
    · cases e
    · simp only [List.cons.injEq, and_true] at e
      obtain ⟨rfl, rfl⟩ := e
      obtain ⟨o, ho, p, q, hp, hq, rfl⟩ := hs.blk hi hb
      obtain ⟨T1, u1, rfl⟩ := hp.iface
      obtain ⟨T2, u2, rfl⟩ := hq.iface
      refine ⟨_, _, _, _, T1, u1, T2, u2, rfl, Tryz.mPB _ w, Tryz.cfPB _ w, hp, hq, (below_pair w b T1 u1 T2 u2 ho).mono ?_⟩
      rintro e w' ⟨rfl, n, rfl⟩
      exact ⟨_, rfl, Nat.le_refl _, heap_alloc_new _ _, (Kept.drewN _ _).trans (Kept.alloc _ _)⟩
    · simp only [List.cons.injEq, and_true] at e
      obtain ⟨rfl, rfl⟩ := e
      obtain ⟨o, ho, p, q, hp, hq, rfl⟩ := hs.blk hi hb
      obtain ⟨T1, u1, rfl⟩ := hp.iface
      obtain ⟨T2, u2, rfl⟩ := hq.iface
      refine ⟨_, _, _, _, T1, u1, T2, u2, rfl, Tryz.mAB _ w, Tryz.cfAB _ w, hp, hq, (below_arr w b T1 u1 T2 u2 ho).mono ?_⟩
      rintro e w' ⟨rfl, n, rfl⟩
      exact ⟨_, rfl, Nat.le_refl _, heap_alloc_new _ _, (Kept.drewN _ _).trans (Kept.alloc _ _)⟩
theorem SX.kept {w w' : World} {ad : List Nat} {σ : St} (h : SX w ad σ) (hk : Kept w w') : SX w' ad σ := h.keep (fun _ _ _ hb => hk.blk hb)
/-- a block of types' values is none of the store's. -/
theorem Kt.typs {w w' : World} {ad : List Nat} {S : Nat → Prop} (h : Kt ad S w w') {g : Nat} {cs : Array Value} {f : Nat × Nat} (hg : w.heap[g]? = some (.cells cs 77 f)) (hn : ¬ S g) : w'.heap[g]? = some (.cells cs 77 f) := h.blk g _ hg hn (by
  rintro ⟨cs', e, f', he, ht⟩
  simp only [Obj.cells.injEq] at he
  obtain ⟨_, rfl, _⟩ := he
  rcases ht with e | e | e | e <;> cases e)
end Go.Proofs.YtleenphlgbklmabGreatDoor

namespace Go.Proofs.YtleenphlgbklmabGreatDoor
open Go.RowKit

theorem roomF_le : ∀ (n : Nat) {σ : St} {r : TR} {room k : Int}, roomF n σ r room = some k → 0 ≤ room → -1 ≤ k ∧ k ≤ room := by
  intro n
  induction n with
  | zero => intro σ r room k h; simp [roomF] at h
  | succ n ih =>
    intro σ r room k h h0
    simp only [roomF, Option.bind_eq_some_iff] at h
    obtain ⟨r0, _, ks, _, h⟩ := h
    split at h
    · simp only [Option.some.injEq] at h
      omega
    · split at h
      · simp only [Option.some.injEq] at h
        omega
      · have := ih h (by omega)
        omega
    · split at h
      · simp only [Option.some.injEq] at h
        omega
      · simp only [Option.bind_eq_some_iff] at h
        obtain ⟨a, ha, h⟩ := h
        have := ih ha (by omega)
        split at h
        · simp only [Option.some.injEq] at h
          omega
        · have := ih h (by omega)
          omega
    · simp at h
def SRx (n : Nat) : Prop := ∀ (σ : St) (r : TR) (room k : Int), roomF n σ r room = some k → 0 ≤ room → room ≤ 1000000 → ∀ (w : World) (ad : List Nat) (v : Value), SX w ad σ → RV ad r v →
  Calls Tryz.prog 82 #[v, .int .i64 room] w fun e w' => e = .returned (.int .i64 k) ∧ SX w' ad σ ∧ Kt ad (fun _ => False) w w'
set_option maxRecDepth 20000 in
set_option maxHeartbeats 2000000 in
theorem room_sx : ∀ n, SRx n := by
  intro n
  induction n with
  | zero => intro σ r room k h; simp [roomF] at h
  | succ n ih =>
    intro σ r room k h h0 h2 w ad v hs hv
    simp only [roomF, Option.bind_eq_some_iff] at h
    obtain ⟨r0, hr, ks, hk, h⟩ := h
    have hr := repF_rp _ hr
    have HK : Hid _ := known_se hr w v hs hv
    have HIH : Hid (∀ (r : TR) (room k : Int), roomF n σ r room = some k → 0 ≤ room → room ≤ 1000000 → ∀ (w : World) (v : Value), SX w ad σ → RV ad r v → Calls Tryz.prog 82 #[v, .int .i64 room] w fun e w' => e = .returned (.int .i64 k) ∧ SX w' ad σ ∧ Kt ad (fun _ => False) w w') := fun r room k h h0 h2 w v => ih σ r room k h h0 h2 w ad v
    have HR : Hid _ := hr.root_of
    have HKS : Hid _ := hk
    obtain ⟨T, u, rfl⟩ := hv.iface
    clear hs hr hv ih hk
    go_enter Tryz.func82, Tryz.ntmps82
    go_wp2_with fail
    refine Calls.mono HK.out ?_
    rintro e w1 ⟨v0, rfl, hv0, hs1, hk1⟩
    clear HK
    have HS1 : Hid _ := hs1
    have HK1 : Hid _ := hk1
    split at h
    · simp only [Option.some.injEq] at h
      subst h
      obtain ⟨T0, u0, f, rv, rfl, hm, hcf, HB⟩ := below0 (w := w1) HR.out hv0 HKS.out
      have HB : Hid _ := HB
      clear hs1 hk1 hv0 HIH HR HKS
      go_wp2_with fail
      refine Calls.mono HB.out ?_
      rintro e w2 ⟨rfl, hk2⟩
      have HK2 : Hid _ := hk2
      clear hk2 HB hm hcf
      go_wp2
      refine wp_loop_rounds 1 ?_
      rw [rounds_succ]
      go_wp2
      go_ret
      exact ⟨rfl, SX.kept HS1.out HK2.out, HK1.out.trans (Kt.of_kept HK2.out)⟩
    · rename_i x
      obtain ⟨T0, u0, f, rv, T1, u1, rfl, hm, hcf, hx, HB⟩ := below1 HS1.out HR.out hv0 HKS.out
      have HB : Hid _ := HB
      have HX : Hid _ := hx
      clear hs1 hk1 hv0 HR HKS hx
      go_wp2_with fail
      refine Calls.mono HB.out ?_
      rintro e w2 ⟨g, rfl, hg, hbl, hk2⟩
      have HK2 : Hid _ := hk2
      clear hk2 HB hm hcf
      have d0 : w2.cell? ⟨g, 0, none⟩ = some (.iface T1 u1) := by simp [World.cell?, hbl]
      clear hbl hg
      have HSF : Hid _ := SX.kept HS1.out HK2.out
      have HKF : Hid _ := HK1.out.trans (Kt.of_kept HK2.out)
      split at h
      · rename_i hlt
        simp only [Option.some.injEq] at h
        subst h
        go_wp2_with fail
        refine wp_loop_rounds 2 ?_
        rw [rounds_succ]
        go_wp2
        go_ret
        exact ⟨rfl, HSF.out, HKF.out⟩
      · rename_i hlt
        have HC : Hid _ := HIH.out x (room - 1) k h (by omega) (by omega) w2 _ HSF.out HX.out
        clear h HIH
        go_wp2_with fail
        refine wp_loop_rounds 2 ?_
        rw [rounds_succ]
        go_wp2_with fail
        refine Calls.mono HC.out ?_
        rintro e w3 ⟨rfl, hs3, hk3⟩
        have HS3 : Hid _ := hs3
        have HK3 : Hid _ := HKF.out.trans hk3
        clear hs3 hk3 HC
        go_wp2
        rw [rounds_succ]
        go_wp2
        go_ret
        exact ⟨rfl, HS3.out, HK3.out⟩
    · rename_i x y
      obtain ⟨T0, u0, f, rv, T1, u1, T2, u2, rfl, hm, hcf, hx, hy, HB⟩ := below2 HS1.out HR.out hv0 HKS.out
      have HB : Hid _ := HB
      have HX : Hid _ := hx
      have HY : Hid _ := hy
      clear hs1 hk1 hv0 HR HKS hx hy
      go_wp2_with fail
      refine Calls.mono HB.out ?_
      rintro e w2 ⟨g, rfl, hg, hbl, hk2⟩
      have HK2 : Hid _ := hk2
      clear hk2 HB hm hcf
      have d0 : w2.cell? ⟨g, 0, none⟩ = some (.iface T1 u1) := by simp [World.cell?, hbl]
      have HBL : Hid _ := hbl
      clear hbl hg
      have HSF : Hid _ := SX.kept HS1.out HK2.out
      have HKF : Hid _ := HK1.out.trans (Kt.of_kept HK2.out)
      split at h
      · rename_i hlt
        simp only [Option.some.injEq] at h
        subst h
        go_wp2_with fail
        refine wp_loop_rounds 3 ?_
        rw [rounds_succ]
        go_wp2
        go_ret
        exact ⟨rfl, HSF.out, HKF.out⟩
      · rename_i hlt
        simp only [Option.bind_eq_some_iff] at h
        obtain ⟨a, ha, h⟩ := h
        have HC : Hid _ := HIH.out x (room - 1) a ha (by omega) (by omega) w2 _ HSF.out HX.out
        have hle := roomF_le n ha (by omega)
        have hle2 : a ≤ 1000000 := by omega
        clear ha
        go_wp2_with fail
        refine wp_loop_rounds 3 ?_
        rw [rounds_succ]
        go_wp2_with fail
        refine Calls.mono HC.out ?_
        rintro e w3 ⟨rfl, hs3, hk3⟩
        have HS3 : Hid _ := hs3
        have hbl3 := hk3.typs HBL.out (fun z => z)
        have d1 : w3.cell? ⟨g, 1, none⟩ = some (.iface T2 u2) := by simp [World.cell?, hbl3]
        have HK3 : Hid _ := HKF.out.trans hk3
        clear hs3 hk3 HC hbl3
        split at h
        · rename_i hlt2
          simp only [Option.some.injEq] at h
          subst h
          go_wp2_with fail
          rw [rounds_succ]
          go_wp2
          go_ret
          exact ⟨rfl, HS3.out, HK3.out⟩
        · rename_i hlt2
          have HC : Hid _ := HIH.out y a k h (by omega) (by omega) w3 _ HS3.out HY.out
          clear h HIH
          go_wp2_with fail
          rw [rounds_succ]
          go_wp2_with fail
          refine Calls.mono HC.out ?_
          rintro e w4 ⟨rfl, hs4, hk4⟩
          have HS4 : Hid _ := hs4
          have HK4 : Hid _ := HK3.out.trans hk4
          clear hs4 hk4 HC
          go_wp2
          rw [rounds_succ]
          go_wp2
          go_ret
          exact ⟨rfl, HS4.out, HK4.out⟩
    · simp at h
set_option maxRecDepth 20000 in
theorem above_sx {σ : St} {r : TR} {big : Bool} (h : bigF σ r = some big) (w : World) (ad : List Nat) (v : Value) (hs : SX w ad σ) (hv : RV ad r v) : Calls Tryz.prog 53 #[.int .i64 120, v] w fun e w' => e = .returned (.bool big) ∧ SX w' ad σ ∧ Kt ad (fun _ => False) w w' := by
  simp only [bigF, Option.bind_eq_some_iff, Option.some.injEq] at h
  obtain ⟨k, hk, rfl⟩ := h
  have HR : Hid _ := room_sx 500 σ r 120 k hk (by omega) (by omega) w ad v hs hv
  obtain ⟨T, u, rfl⟩ := hv.iface
  clear hs hv hk
  go_enter Tryz.func53, Tryz.ntmps53
  go_wp2_with fail
  refine Calls.mono HR.out ?_
  rintro e w1 ⟨rfl, hs1, hk1⟩
  have HS : Hid _ := hs1
  have HK : Hid _ := hk1
  clear hs1 hk1 HR
  go_wp2
  go_ret
  exact ⟨rfl, HS.out, HK.out⟩
end Go.Proofs.YtleenphlgbklmabGreatDoor

namespace Go.Proofs.YtleenphlgbklmabGreatDoor
open Go.RowKit

theorem Tryz.zS0 (w : World) : (zeroValue 310).run Tryz.prog w = .ok (.agg #[]) w := by kernel_rfl
/-- a set of types, as a map's entries. -/
def pvP (l : List TR) : List (TR × Value) := l.map fun r => (r, .agg #[])
theorem ask_mem (r : TR) (l : List TR) : ∀ i, (memT r l = true → ∃ j, askT r (pvP l) i = some (j, .agg #[])) ∧ (memT r l = false → askT r (pvP l) i = none) := by
  induction l with
  | nil => intro i; simp [memT, pvP, askT]
  | cons c l ih =>
    intro i
    have h := ih (i + 1)
    cases hb : r.eqb c with
    | true => simp [memT, pvP, askT, hb]
    | false => simpa [memT, pvP, askT, hb] using h
theorem look_ps {w : World} {ad : List Nat} {σ : St} (h : SX w ad σ) {r : TR} {v : Value} (hv : RV ad r v) {mb : Nat} {l : List TR} (hm : TMp w mb ad (pvP l)) :
    (Instr.lookup 232 (.map (some mb)) v true).run Tryz.prog w = .ok (.tuple #[.agg #[], .bool (memT r l)]) w := by
  obtain ⟨τ, s1, _⟩ := h
  have := run_tmlook s1 hv hm 232 310 _ Tryz.underlying232 (Tryz.zS0 w)
  rw [this]
  cases hb : memT r l with
  | true =>
    obtain ⟨j, hj⟩ := (ask_mem r l 0).1 hb
    rw [hj]
  | false => rw [(ask_mem r l 0).2 hb]
set_option maxRecDepth 20000 in
theorem has_ps {w : World} {ad : List Nat} {σ : St} (h : SX w ad σ) {r : TR} {v : Value} (hv : RV ad r v) {mb : Nat} {l : List TR} (hm : TMp w mb ad (pvP l)) : Calls Tryz.prog 140 #[.map (some mb), v] w fun e w' => e = .returned (.bool (memT r l)) ∧ Kept w w' := by
  have hl := look_ps h hv hm
  obtain ⟨T, u, rfl⟩ := hv.iface
  clear h hv hm
  go_enter Tryz.func140, Tryz.ntmps140
  go_wp2
  go_ret
  exact ⟨rfl, Kept.alloc _ _⟩
theorem Kt.mapset {ad : List Nat} {w : World} {mb : Nat} {es : Array MapEntry} {n : Nat} (hm : w.heap[mb]? = some (.map es n)) (o : Obj) : Kt ad (fun q => q = mb) w (mapSet w mb o) :=
  ⟨rfl, rfl, by simp [mapSet], fun q _ hq hn _ => (mapSet_other _ _ _ _ hn).trans hq⟩
theorem SX.mapSet {w : World} {ad : List Nat} {σ : St} (h : SX w ad σ) {mb : Nat} {es : Array MapEntry} {n : Nat} (hm : w.heap[mb]? = some (.map es n)) (o : Obj) : SX (Go.Proofs.YtleenphlgbklmabGreatDoor.mapSet w mb o) ad σ := by
  obtain ⟨τ, s1, s2⟩ := h
  exact ⟨τ, s1.mapSet hm o, s2⟩
/-- a type joins the set. -/
theorem put_ps {w : World} {ad : List Nat} {σ : St} (h : SX w ad σ) {r : TR} {v : Value} (hv : RV ad r v) {mb : Nat} {l : List TR} (hm : TMp w mb ad (pvP l)) (hn : memT r l = false) :
    ∃ w', (Instr.mapUpdate 232 (.map (some mb)) v (.agg #[])).run Tryz.prog w = .ok () w' ∧ SX w' ad σ ∧ TMp w' mb ad (pvP (l ++ [r])) ∧ Kt ad (fun q => q = mb) w w' := by
  have hs := h
  obtain ⟨τ, s1, _⟩ := h
  refine ⟨_, run_tmput s1 hv hm 232 310 _ Tryz.underlying232 ((ask_mem r l 0).2 hn), hs.mapSet hm.mp _, ?_, Kt.mapset hm.mp _⟩
  have := hm.put hv (.agg #[])
  simpa [pvP] using this
theorem TMp.keptP {w w' : World} {mb : Nat} {ad : List Nat} {l : List (TR × Value)} (h : TMp w mb ad l) (k : Kept w w') : TMp w' mb ad l := ⟨k.blk h.mp, h.ok⟩
def SAdd (n : Nat) : Prop := ∀ (σ : St) (r : TR) (l l' : List TR), partsF n σ r l = some l' → ∀ (w : World) (ad : List Nat) (v : Value) (mb : Nat), SX w ad σ → RV ad r v → TMp w mb ad (pvP l) →
  Calls Tryz.prog 165 #[.map (some mb), v] w fun e w' => e = .returned (.tuple #[]) ∧ SX w' ad σ ∧ TMp w' mb ad (pvP l') ∧ Kt ad (fun q => q = mb) w w'
set_option maxRecDepth 20000 in
set_option maxHeartbeats 2000000 in
theorem add_sx : ∀ n, SAdd n := by
  intro n
  induction n with
  | zero => intro σ r l l' h; simp [partsF] at h
  | succ n ih =>
    intro σ r l l' h w ad v mb hs hv hm
    simp only [partsF, Option.bind_eq_some_iff] at h
    obtain ⟨r0, hr, h⟩ := h
    have hr := repF_rp _ hr
    have HK : Hid _ := known_se hr w v hs hv
    have HIH : Hid (∀ (r : TR) (l l' : List TR), partsF n σ r l = some l' → ∀ (w : World) (v : Value), SX w ad σ → RV ad r v → TMp w mb ad (pvP l) → Calls Tryz.prog 165 #[.map (some mb), v] w fun e w' => e = .returned (.tuple #[]) ∧ SX w' ad σ ∧ TMp w' mb ad (pvP l') ∧ Kt ad (fun q => q = mb) w w') := fun r l l' h w v => ih σ r l l' h w ad v mb
    have HR : Hid _ := hr.root_of
    have HM : Hid _ := hm
    obtain ⟨T, u, rfl⟩ := hv.iface
    clear hs hr hv ih hm
    go_enter Tryz.func165, Tryz.ntmps165
    go_wp2_with fail
    refine Calls.mono HK.out ?_
    rintro e w1 ⟨v0, rfl, hv0, hs1, hk1⟩
    clear HK
    have HS1 : Hid _ := hs1
    have HK1 : Hid _ := hk1
    have hm1 := HM.out.kt hk1 id
    have HM1 : Hid _ := hm1
    have HH : Hid _ := has_ps hs1 hv0 hm1
    have HV0 : Hid _ := hv0
    obtain ⟨T0, u0, rfl⟩ := hv0.iface
    clear hs1 hk1 hm1 hv0
    have HMO : Hid (∀ {w1 w2 : World}, Kt ad (fun _ => False) w1 w2 → Kt ad (fun q => q = mb) w1 w2) := fun k => k.mono (fun _ _ z => z.elim)
    go_wp2_with fail
    refine Calls.mono HH.out ?_
    rintro e w1' ⟨rfl, hkh⟩
    have HS1 : Hid _ := SX.kept HS1.out hkh
    have HM1 : Hid _ := HM1.out.keptP hkh
    have HK1 : Hid _ := HK1.out.trans (Kt.of_kept hkh)
    clear HH hkh
    split at h
    · rename_i hb
      simp only [Option.some.injEq] at h
      subst h
      rw [hb]
      go_wp2
      exact bodyPost_ret (results_none Tryz.results165 _ _ _) rfl ⟨rfl, HS1.out, HM1.out, HMO.out HK1.out⟩
    · rename_i hb
      have hb : memT r0 l = false := by simpa using hb
      rw [hb]
      simp only [Option.bind_eq_some_iff] at h
      obtain ⟨ks, hk, h⟩ := h
      obtain ⟨w2, hp, hs2, hm2, hk2⟩ := put_ps HS1.out HV0.out HM1.out hb
      have HS2 : Hid _ := hs2
      have HM2 : Hid _ := hm2
      have HK2 : Hid _ := (HMO.out HK1.out).trans hk2
      clear hs2 hm2 hk2 HM1 HS1 HK1 hb
      split at h
      · simp only [Option.some.injEq] at h
        subst h
        obtain ⟨T9, u9, f, rv, e9, hm, hcf, HB⟩ := below0 (w := w2) HR.out HV0.out hk
        simp only [Value.iface.injEq] at e9
        obtain ⟨rfl, rfl⟩ := e9
        have HB : Hid _ := HB
        clear HIH HR hk
        go_wp2_with fail
        refine Calls.mono HB.out ?_
        rintro e w3 ⟨rfl, hk3⟩
        have HK3 : Hid _ := hk3
        clear hk3 HB hm hcf
        go_wp2
        refine wp_loop_rounds 1 ?_
        rw [rounds_succ]
        go_wp2
        exact bodyPost_end (results_none Tryz.results165 _ _ _) rfl ⟨rfl, SX.kept HS2.out HK3.out, HM2.out.keptP HK3.out, HK2.out.trans (Kt.of_kept HK3.out)⟩
      · rename_i x
        obtain ⟨T9, u9, f, rv, T1, u1, e9, hm, hcf, hx, HB⟩ := below1 HS2.out HR.out HV0.out hk
        simp only [Value.iface.injEq] at e9
        obtain ⟨rfl, rfl⟩ := e9
        have HB : Hid _ := HB
        have HX : Hid _ := hx
        have HC : Hid _ := HIH.out x _ _ h
        clear HR hk hx h HIH
        go_wp2_with fail
        refine Calls.mono HB.out ?_
        rintro e w3 ⟨g, rfl, hg, hbl, hk3⟩
        have HC : Hid _ := HC.out w3 _ (SX.kept HS2.out hk3) HX.out (HM2.out.keptP hk3)
        have HK3 : Hid _ := HK2.out.trans (Kt.of_kept hk3)
        clear hk3 HB hm hcf
        have d0 : w3.cell? ⟨g, 0, none⟩ = some (.iface T1 u1) := by simp [World.cell?, hbl]
        clear hbl hg
        go_wp2_with fail
        refine wp_loop_rounds 2 ?_
        rw [rounds_succ]
        go_wp2_with fail
        refine Calls.mono HC.out ?_
        rintro e w4 ⟨rfl, hs4, hm4, hk4⟩
        have HF : Hid _ := And.intro hs4 (And.intro hm4 (HK3.out.trans hk4))
        clear hs4 hk4 hm4 HC
        go_wp2
        rw [rounds_succ]
        go_wp2
        exact bodyPost_end (results_none Tryz.results165 _ _ _) rfl ⟨rfl, HF.out⟩
      · rename_i x y
        simp only [Option.bind_eq_some_iff] at h
        obtain ⟨l1, h1, h⟩ := h
        obtain ⟨T9, u9, f, rv, T1, u1, T2, u2, e9, hm, hcf, hx, hy, HB⟩ := below2 HS2.out HR.out HV0.out hk
        simp only [Value.iface.injEq] at e9
        obtain ⟨rfl, rfl⟩ := e9
        have HB : Hid _ := HB
        have HX : Hid _ := hx
        have HY : Hid _ := hy
        have HC : Hid _ := HIH.out x _ _ h1
        have HD : Hid _ := HIH.out y _ _ h
        have HN : Hid (mb < w2.heap.size) := lt_of_block HM2.out.mp
        clear HR hk hx hy h h1 HIH
        go_wp2_with fail
        refine Calls.mono HB.out ?_
        rintro e w3 ⟨g, rfl, hg, hbl, hk3⟩
        have HC : Hid _ := HC.out w3 _ (SX.kept HS2.out hk3) HX.out (HM2.out.keptP hk3)
        have HK3 : Hid _ := HK2.out.trans (Kt.of_kept hk3)
        have HG : Hid (¬ g = mb) := fun z => by have := HN.out; have := hg; omega
        clear hk3 HB hm hcf
        have d0 : w3.cell? ⟨g, 0, none⟩ = some (.iface T1 u1) := by simp [World.cell?, hbl]
        have HBL : Hid _ := hbl
        clear hbl hg
        go_wp2_with fail
        refine wp_loop_rounds 3 ?_
        rw [rounds_succ]
        go_wp2_with fail
        refine Calls.mono HC.out ?_
        rintro e w4 ⟨rfl, hs4, hm4, hk4⟩
        have hbl4 := hk4.typs HBL.out HG.out
        have d1 : w4.cell? ⟨g, 1, none⟩ = some (.iface T2 u2) := by simp [World.cell?, hbl4]
        have HD : Hid _ := HD.out w4 _ hs4 HY.out hm4
        have HK4 : Hid _ := HK3.out.trans hk4
        clear hs4 hk4 hm4 HC hbl4
        go_wp2_with fail
        rw [rounds_succ]
        go_wp2_with fail
        refine Calls.mono HD.out ?_
        rintro e w5 ⟨rfl, hs5, hm5, hk5⟩
        have HF : Hid _ := And.intro hs5 (And.intro hm5 (HK4.out.trans hk5))
        clear hs5 hk5 hm5 HD
        go_wp2
        rw [rounds_succ]
        go_wp2
        exact bodyPost_end (results_none Tryz.results165 _ _ _) rfl ⟨rfl, HF.out⟩
      · simp at h
end Go.Proofs.YtleenphlgbklmabGreatDoor

namespace Go.Proofs.YtleenphlgbklmabGreatDoor
open Go.RowKit

/-- the faults lie ahead of the store. -/
structure GA (A : Nat → Addr) (B : Nat) (ad : List Nat) (w : World) : Prop where
  glb : Glb A w
  lo : ∀ q, q ∈ ad → B ≤ q
  sz : B ≤ w.heap.size
  ab : ∀ k, k < 8 → (A k).block < B
  gb : 0 < B ∧ 1 < B ∧ 2 < B ∧ 3 < B ∧ 4 < B ∧ 5 < B ∧ 6 < B ∧ 7 < B ∧ 8 < B
theorem GA.start {A : Nat → Addr} {w : World} (h : Glb A w) : GA A w.heap.size [] w :=
  ⟨h, by simp, Nat.le_refl _, fun k hk => by
    obtain ⟨c, t, e⟩ := h.blk k hk
    exact lt_of_block e, World.block_lt_of_cell? _ _ h.c0, World.block_lt_of_cell? _ _ h.c1, World.block_lt_of_cell? _ _ h.c2, World.block_lt_of_cell? _ _ h.c3, World.block_lt_of_cell? _ _ h.c4, World.block_lt_of_cell? _ _ h.c5, World.block_lt_of_cell? _ _ h.c6, World.block_lt_of_cell? _ _ h.c7, World.block_lt_of_cell? _ _ h.et⟩
theorem Glb.low {A : Nat → Addr} {w w' : World} {B : Nat} (h : Glb A w) (hab : ∀ k, k < 8 → (A k).block < B) (hgb : 0 < B ∧ 1 < B ∧ 2 < B ∧ 3 < B ∧ 4 < B ∧ 5 < B ∧ 6 < B ∧ 7 < B ∧ 8 < B) (hk : ∀ q, q < B → w'.heap[q]? = w.heap[q]?) : Glb A w' := by
  obtain ⟨b0, b1, b2, b3, b4, b5, b6, b7, b8⟩ := hgb
  exact ⟨fun k hk' => by
    obtain ⟨c, t, e⟩ := h.blk k hk'
    exact ⟨c, t, (hk _ (hab k hk')).trans e⟩, h.ne, (World.cell?_of_block (hk _ b0)).trans h.c0, (World.cell?_of_block (hk _ b1)).trans h.c1, (World.cell?_of_block (hk _ b2)).trans h.c2, (World.cell?_of_block (hk _ b3)).trans h.c3, (World.cell?_of_block (hk _ b4)).trans h.c4, (World.cell?_of_block (hk _ b5)).trans h.c5, (World.cell?_of_block (hk _ b6)).trans h.c6, (World.cell?_of_block (hk _ b7)).trans h.c7, (World.cell?_of_block (hk _ b8)).trans h.et⟩
theorem GA.low {A : Nat → Addr} {B : Nat} {ad : List Nat} {w w' : World} (h : GA A B ad w) (hs : w.heap.size ≤ w'.heap.size) (hk : ∀ q, q < B → w'.heap[q]? = w.heap[q]?) : GA A B ad w' := ⟨h.glb.low h.ab h.gb hk, h.lo, Nat.le_trans h.sz hs, h.ab, h.gb⟩
theorem Kt.low {ad : List Nat} {S : Nat → Prop} {w w' : World} {B : Nat} (h : Kt ad S w w') (hB : B ≤ w.heap.size) (hl : ∀ q, q ∈ ad → B ≤ q) (hS : ∀ q, S q → B ≤ q) : ∀ q, q < B → w'.heap[q]? = w.heap[q]? := fun q hq => by
  have e : w.heap[q]? = some (w.heap[q]'(by omega)) := by simp
  rw [e]
  exact h.blk0 q _ e (fun z => by have := hS q z; omega) (fun _ z => by have := hl q z; omega)
theorem GA.kt {A : Nat → Addr} {B : Nat} {ad : List Nat} {S : Nat → Prop} {w w' : World} (h : GA A B ad w) (k : Kt ad S w w') (hS : ∀ q, S q → B ≤ q) : GA A B ad w' := h.low k.size (k.low h.sz h.lo hS)
theorem GA.kt0 {A : Nat → Addr} {B : Nat} {ad : List Nat} {w w' : World} (h : GA A B ad w) (k : Kt ad (fun _ => False) w w') : GA A B ad w' := h.kt k (fun _ z => z.elim)
theorem GA.kept {A : Nat → Addr} {B : Nat} {ad : List Nat} {w w' : World} (h : GA A B ad w) (k : Kept w w') : GA A B ad w' := h.kt0 (Kt.of_kept k)
/-- a fault is thrown. -/
def Thr (A : Nat → Addr) (j : Nat) (e : Ending) : Prop := e = thrown (.iface 342 (.pointer (some (A j))))
theorem eql_tr {w : World} {ad : List Nat} {σ : St} (h : SX w ad σ) {r s : TR} {v u : Value} (hv : RV ad r v) (hu : RV ad s u) : (binOp .eql 77 v u).run Tryz.prog w = .ok (.bool (r.eqb s)) w := by
  obtain ⟨τ, s1, _⟩ := h
  have := eq_tr s1 hv hu
  obtain ⟨T, x, rfl⟩ := hv.iface
  obtain ⟨T', x', rfl⟩ := hu.iface
  simp [binOp, this, Result.andThen]
theorem Tryz.tbBV (v : Value) (w : World) : (Instr.typeAssert (.iface 271 v) 77 124 true).run Tryz.prog w = .ok (.tuple #[.pointer none, .bool false]) w := by kernel_rfl
theorem Tryz.tbBL (v : Value) (w : World) : (Instr.typeAssert (.iface 271 v) 77 149 true).run Tryz.prog w = .ok (.tuple #[.pointer none, .bool false]) w := by kernel_rfl
theorem Tryz.tbBP (v : Value) (w : World) : (Instr.typeAssert (.iface 271 v) 77 153 true).run Tryz.prog w = .ok (.tuple #[.pointer none, .bool false]) w := by kernel_rfl
def kdB (l : Kd) : TR → Bool
  | .nd k _ => k.eqb l
  | _ => false
theorem ta_kd (k l : Kd) (v : Value) (w : World) : (Instr.typeAssert (.iface k.tp v) 77 l.tp true).run Tryz.prog w = .ok (.tuple #[if k.eqb l then v else .pointer none, .bool (k.eqb l)]) w := by
  cases k <;> cases l
  · exact Tryz.taVV v w
  · exact Tryz.taVL v w
  · exact Tryz.taVP v w
  · exact Tryz.taVA v w
  · exact Tryz.taLV v w
  · exact Tryz.taLL v w
  · exact Tryz.taLP v w
  · exact Tryz.taLA v w
  · exact Tryz.taPV v w
  · exact Tryz.taPL v w
  · exact Tryz.taPP v w
  · exact Tryz.taPA v w
  · exact Tryz.taAV v w
  · exact Tryz.taAL v w
  · exact Tryz.taAP v w
  · exact Tryz.taAA v w
theorem ta_tr {ad : List Nat} {r : TR} {v : Value} (hv : RV ad r v) (l : Kd) : ∃ p, ∀ w, (Instr.typeAssert v 77 l.tp true).run Tryz.prog w = .ok (.tuple #[p, .bool (kdB l r)]) w := by
  cases r with
  | int =>
    rw [show v = _ from hv]
    cases l
    · exact ⟨_, Tryz.tbBV _⟩
    · exact ⟨_, Tryz.tbBL _⟩
    · exact ⟨_, Tryz.tbBP _⟩
    · exact ⟨_, Tryz.taBA _⟩
  | bool =>
    rw [show v = _ from hv]
    cases l
    · exact ⟨_, Tryz.tbBV _⟩
    · exact ⟨_, Tryz.tbBL _⟩
    · exact ⟨_, Tryz.tbBP _⟩
    · exact ⟨_, Tryz.taBA _⟩
  | nd k i =>
    obtain ⟨b, hb, rfl⟩ := hv
    exact ⟨_, ta_kd k l _⟩
theorem ta_var {ad : List Nat} {r : TR} {v : Value} (hv : RV ad r v) {i : Nat} (hi : isVr r = some i) : ∃ b, ad[i]? = some b ∧ v = .iface 124 (.pointer (some ⟨b, 0, none⟩)) ∧ r = .nd .vr i ∧ ∀ w, (Instr.typeAssert v 77 124 true).run Tryz.prog w = .ok (.tuple #[.pointer (some ⟨b, 0, none⟩), .bool true]) w := by
  cases r with
  | int => simp [isVr] at hi
  | bool => simp [isVr] at hi
  | nd k j =>
    cases k <;> simp [isVr] at hi
    subst hi
    obtain ⟨b, hb, rfl⟩ := hv
    exact ⟨b, hb, rfl, rfl, Tryz.taVV _⟩
theorem ta_not {ad : List Nat} {r : TR} {v : Value} (hv : RV ad r v) (hi : isVr r = none) : ∃ p, ∀ w, (Instr.typeAssert v 77 124 true).run Tryz.prog w = .ok (.tuple #[p, .bool false]) w := by
  obtain ⟨p, hp⟩ := ta_tr hv .vr
  have : kdB .vr r = false := by
    cases r with
    | int => rfl
    | bool => rfl
    | nd k i => cases k <;> first | rfl | simp [isVr] at hi
  rw [this] at hp
  exact ⟨p, hp⟩
set_option maxRecDepth 20000 in
set_option maxHeartbeats 1000000 in
theorem alike_tr {ad : List Nat} {r s : TR} {v u : Value} (hv : RV ad r v) (hu : RV ad s u) (hr : isVr r = none) (w : World) : Calls Tryz.prog 192 #[v, u] w fun e w' => e = .returned (.bool (alkF r s)) ∧ w' = w := by
  obtain ⟨p1, hp1⟩ := ta_tr hu .ls
  obtain ⟨p2, hp2⟩ := ta_tr hu .pr
  obtain ⟨p3, hp3⟩ := ta_tr hu .ar
  have hp1 := hp1 w
  have hp2 := hp2 w
  have hp3 := hp3 w
  simp only [Kd.tp] at hp1 hp2 hp3
  obtain ⟨T, z, rfl⟩ := hu.iface
  cases r with
  | int =>
    rw [show v = _ from hv]
    have q1 := Tryz.tbBL (.agg #[.string { data := #[105, 110, 116] }]) w
    have q2 := Tryz.tbBP (.agg #[.string { data := #[105, 110, 116] }]) w
    have q3 := Tryz.taBA (.agg #[.string { data := #[105, 110, 116] }]) w
    clear hu hv
    go_enter Tryz.func192, Tryz.ntmps192
    go_wp2
    go_ret
    exact ⟨rfl, rfl⟩
  | bool =>
    rw [show v = _ from hv]
    have q1 := Tryz.tbBL (.agg #[.string { data := #[98, 111, 111, 108] }]) w
    have q2 := Tryz.tbBP (.agg #[.string { data := #[98, 111, 111, 108] }]) w
    have q3 := Tryz.taBA (.agg #[.string { data := #[98, 111, 111, 108] }]) w
    clear hu hv
    go_enter Tryz.func192, Tryz.ntmps192
    go_wp2
    go_ret
    exact ⟨rfl, rfl⟩
  | nd k i =>
    obtain ⟨b, hb, rfl⟩ := hv
    have HE : Hid (∀ l, k = l → kdB l s = alkF (.nd k i) s) := fun l e => by
      subst e
      cases s with
      | int => rfl
      | bool => rfl
      | nd l j => cases k <;> cases l <;> rfl
    cases k with
    | vr => simp [isVr] at hr
    | ls =>
      simp only [Kd.tp]
      have q1 := Tryz.taLL (.pointer (some ⟨b, 0, none⟩)) w
      have HE := HE.out .ls rfl
      rw [← HE]
      clear HE hb hu hp2 hp3 hr
      go_enter Tryz.func192, Tryz.ntmps192
      go_wp2
      go_ret
      exact ⟨rfl, rfl⟩
    | pr =>
      simp only [Kd.tp]
      have q1 := Tryz.taPL (.pointer (some ⟨b, 0, none⟩)) w
      have q2 := Tryz.taPP (.pointer (some ⟨b, 0, none⟩)) w
      have HE := HE.out .pr rfl
      rw [← HE]
      clear HE hb hu hp1 hp3 hr
      go_enter Tryz.func192, Tryz.ntmps192
      go_wp2
      go_ret
      exact ⟨rfl, rfl⟩
    | ar =>
      simp only [Kd.tp]
      have q1 := Tryz.taAL (.pointer (some ⟨b, 0, none⟩)) w
      have q2 := Tryz.taAP (.pointer (some ⟨b, 0, none⟩)) w
      have q3 := Tryz.taAA (.pointer (some ⟨b, 0, none⟩)) w
      have HE := HE.out .ar rfl
      rw [← HE]
      clear HE hb hu hp1 hp2 hr
      go_enter Tryz.func192, Tryz.ntmps192
      go_wp2
      go_ret
      exact ⟨rfl, rfl⟩
end Go.Proofs.YtleenphlgbklmabGreatDoor

namespace Go.Proofs.YtleenphlgbklmabGreatDoor
open Go.RowKit

theorem Tryz.mkPS (w : World) : (Instr.makeMap 232 none).run Tryz.prog w = .ok (.map (some w.heap.size)) (w.alloc (.map #[] 0)) := by kernel_rfl
/-- how a call that changes the store ends. -/
def EqO (A : Nat → Addr) (ad : List Nat) (w : World) (e : Ending) (w' : World) : Oc St → Prop
  | .ok σ => e = .returned (.tuple #[]) ∧ SX w' ad σ ∧ Kt ad (fun _ => False) w w'
  | .er j => Thr A j e ∧ Kt ad (fun _ => False) w w'
theorem SX.set {w : World} {ad : List Nat} {σ τ : St} {i b : Nat} {r : TR} {v : Value} (hs : SX w ad σ) (h : stF σ i r = some τ) (hb : ad[i]? = some b) (hv : RV ad r v) :
    (∃ x, w.frozen? ⟨b, 0, none⟩ = false ∧ w.cell? ⟨b, 0, none⟩ = some x) ∧ SX (w.setCell ⟨b, 0, none⟩ v) ad τ ∧ Kt ad (fun _ => False) w (w.setCell ⟨b, 0, none⟩ v) := by
  obtain ⟨nk, hi, hr, hne, rfl⟩ := stF_some h
  obtain ⟨o, ho, hn⟩ := hs.blk hi hb
  obtain ⟨ρ, h1, h2⟩ := hs
  obtain ⟨cs, ty, rfl, h3, _⟩ := hn.first
  refine ⟨⟨_, by simp [World.frozen?, ho], hn.cell ho⟩, ⟨_, h1.found (h2.root hi) hb hv, h2.set hi hr hne⟩, Kt.setT ho hn.tb (List.mem_of_getElem? hb) _ _⟩
theorem TMp.none (w : World) (ad : List Nat) : TMp (w.alloc (.map #[] 0)) w.heap.size ad (pvP []) := ⟨heap_alloc_new _ _, by simp [pvP]⟩
theorem Kt.drop {ad : List Nat} {w w1 w' : World} {mb : Nat} (h : Kept w w1) (k : Kt ad (fun q => q = mb) w1 w') (hm : w.heap.size ≤ mb) : Kt ad (fun _ => False) w w' := ⟨k.os.trans h.os, k.output.trans h.output, Nat.le_trans h.size k.size, fun q o hq _ ht => k.blk0 q o (h.blk hq) (fun z => by have := lt_of_block hq; omega) ht⟩
set_option maxRecDepth 20000 in
set_option maxHeartbeats 2000000 in
theorem bec_sx {A : Nat → Addr} {B : Nat} {σ : St} {i : Nat} {t : TR} {o : Oc St} (h : becF σ i t = some o) (w : World) (ad : List Nat) (b : Nat) (v : Value) (hG : GA A B ad w) (hs : SX w ad σ) (hb : ad[i]? = some b) (hv : RV ad t v) :
    Calls Tryz.prog 178 #[.pointer (some ⟨b, 0, none⟩), v] w fun e w' => EqO A ad w e w' o := by
  simp only [becF, Option.bind_eq_some_iff] at h
  obtain ⟨l, hl, h⟩ := h
  have m1 := Tryz.mkPS w
  have hk1 : Kept w (w.alloc (.map #[] 0)) := Kept.alloc _ _
  have HA : Hid _ := add_sx 500 σ t [] l hl (w.alloc (.map #[] 0)) ad v w.heap.size (hs.kept hk1) hv (TMp.none w ad)
  have HS : Hid _ := hs
  have HG : Hid _ := hG
  have HV : Hid _ := hv
  obtain ⟨T, u, rfl⟩ := hv.iface
  clear hs hG hl hv
  go_enter Tryz.func178, Tryz.ntmps178
  go_wp2_with fail
  refine Calls.mono HA.out ?_
  rintro e w2 ⟨rfl, hs2, hm2, hk2⟩
  have HK2 : Hid (Kt ad (fun _ => False) w w2) := Kt.drop hk1 hk2 (Nat.le_refl _)
  have HS2 : Hid _ := hs2
  have HH : Hid _ := has_ps hs2 (r := .nd .vr i) ⟨b, hb, rfl⟩ hm2
  simp only [Kd.tp] at HH
  clear HA hk2 hm2 hs2 m1 hk1
  go_wp2_with fail
  refine Calls.mono HH.out ?_
  rintro e w3 ⟨rfl, hk3⟩
  have HK3 : Hid _ := HK2.out.trans (Kt.of_kept hk3)
  have HS3 : Hid _ := SX.kept HS2.out hk3
  have HG3 := HG.out.kt0 HK3.out
  have hg := HG3.glb.c3
  clear HH hk3 HK2 HS2 HG3
  split at h
  · rename_i hmem
    simp only [Option.some.injEq] at h
    subst h
    rw [hmem]
    have HR : Hid _ := prefuse_es (A 3) w3
    go_wp2_with fail
    refine Calls.mono HR.out ?_
    rintro e w' ⟨rfl, hww⟩
    rw [hww]
    clear hww w' HR
    go_wp2
    exact ⟨rfl, rfl, HK3.out⟩
  · rename_i hmem
    have hmem : memT (.nd .vr i) l = false := by simpa using hmem
    rw [hmem]
    simp only [Option.bind_eq_some_iff, Option.some.injEq] at h
    obtain ⟨τ, hτ, rfl⟩ := h
    obtain ⟨⟨x, hx1, hx2⟩, hx3, hx4⟩ := SX.set HS3.out hτ hb HV.out
    have HX : Hid _ := And.intro hx3 (HK3.out.trans hx4)
    clear hx3 hx4 hτ hmem
    go_wp2
    exact bodyPost_end (results_none Tryz.results178 _ _ _) rfl ⟨rfl, HX.out⟩
/-- the program's makeEqual does what the mirror does. -/
def SEq (A : Nat → Addr) (B : Nat) (f : St → TR → TR → Option (Oc St)) : Prop := ∀ (σ : St) (x y : TR) (o : Oc St), f σ x y = some o → ∀ (w : World) (ad : List Nat) (v u : Value), GA A B ad w → SX w ad σ → RV ad x v → RV ad y u →
  Calls Tryz.prog 164 #[v, u] w fun e w' => EqO A ad w e w' o
set_option maxRecDepth 20000 in
set_option maxHeartbeats 2000000 in
theorem beq_sx {A : Nat → Addr} {B : Nat} {f : St → TR → TR → Option (Oc St)} (ih : SEq A B f) {σ : St} {x0 y0 : TR} {o : Oc St} (h : belF f σ x0 y0 = some o) (hx : isVr x0 = none) (rx : Rp σ x0 x0) (ry : Rp σ y0 y0) (w : World) (ad : List Nat) (v u : Value) (hG : GA A B ad w) (hs : SX w ad σ) (hv : RV ad x0 v) (hu : RV ad y0 u) :
    Calls Tryz.prog 179 #[v, u] w fun e w' => EqO A ad w e w' o := by
  have HA : Hid _ := alike_tr hv hu hx w
  have hg := hG.glb.c3
  have HG : Hid _ := hG
  have HS : Hid _ := hs
  have HV : Hid _ := hv
  have HU : Hid _ := hu
  have HRX : Hid _ := rx
  have HRY : Hid _ := ry
  have HIH : Hid _ := ih
  obtain ⟨T, z, rfl⟩ := hv.iface
  obtain ⟨T', z', rfl⟩ := hu.iface
  clear hG hs hv hu rx ry ih hx
  go_enter Tryz.func179, Tryz.ntmps179
  go_wp2_with fail
  refine Calls.mono HA.out ?_
  rintro e w' ⟨rfl, hww⟩
  rw [hww]
  clear hww w' HA
  simp only [belF] at h
  split at h
  · rename_i hal
    rw [hal]
    simp only [Option.bind_eq_some_iff] at h
    obtain ⟨os, hos, ks, hks, h⟩ := h
    split at h
    · rename_i a c
      obtain ⟨Ty, uy, fy, rvy, T1, u1, ey, hmy, hcfy, hy1, HBY⟩ := below1 HS.out HRY.out HU.out hos
      simp only [Value.iface.injEq] at ey
      obtain ⟨rfl, rfl⟩ := ey
      have HBY : Hid _ := HBY
      have HY1 : Hid _ := hy1
      have HKS : Hid _ := hks
      clear hos hy1 hal hg hks
      go_wp2_with fail
      refine Calls.mono HBY.out ?_
      rintro e w1 ⟨g, rfl, hg1, hbl, hk1⟩
      have HS1 : Hid _ := SX.kept HS.out hk1
      have HK1 : Hid _ := hk1
      clear HBY hk1 hmy hcfy hg1
      obtain ⟨Tx, ux, fx, rvx, T2, u2, ex, hmx, hcfx, hx1, HBX⟩ := below1 HS1.out HRX.out HV.out HKS.out
      simp only [Value.iface.injEq] at ex
      obtain ⟨rfl, rfl⟩ := ex
      have HBX : Hid _ := HBX
      have HX1 : Hid _ := hx1
      have HBL : Hid _ := hbl
      clear hx1 HKS hbl
      go_wp2_with fail
      refine Calls.mono HBX.out ?_
      rintro e w2 ⟨g2, rfl, hg2, hbl2, hk2⟩
      have hblY := hk2.blk HBL.out
      have HC : Hid _ := HIH.out σ a c o h w2 ad _ _ ((HG.out.kept HK1.out).kept hk2) (SX.kept HS1.out hk2) HX1.out HY1.out
      have HK2 : Hid _ := Kt.of_kept (ad := ad) (S := fun _ => False) (HK1.out.trans hk2)
      clear HBX hk2 hmx hcfx hg2 h HIH
      have d0 : w2.cell? ⟨g, 0, none⟩ = some (.iface T1 u1) := by simp [World.cell?, hblY]
      have d1 : w2.cell? ⟨g2, 0, none⟩ = some (.iface T2 u2) := by simp [World.cell?, hbl2]
      clear hblY hbl2
      go_wp2_with fail
      refine wp_loop_rounds 2 ?_
      rw [rounds_succ]
      go_wp2_with fail
      refine Calls.mono HC.out ?_
      intro e w3 hE
      cases o with
      | er j =>
        obtain ⟨he, hk3⟩ := hE
        rw [show e = _ from he]
        have HF : Hid _ := HK2.out.trans hk3
        clear hk3 he
        go_wp2
        exact ⟨rfl, rfl, HF.out⟩
      | ok σ1 =>
        obtain ⟨rfl, hs3, hk3⟩ := hE
        have HF : Hid _ := And.intro hs3 (HK2.out.trans hk3)
        clear hk3 hs3
        go_wp2
        rw [rounds_succ]
        go_wp2
        exact bodyPost_end (results_none Tryz.results179 _ _ _) rfl ⟨rfl, HF.out⟩
    · rename_i a b c d
      simp only [Option.bind_eq_some_iff] at h
      obtain ⟨o1, h1, h⟩ := h
      obtain ⟨Ty, uy, fy, rvy, T1, u1, T3, u3, ey, hmy, hcfy, hy1, hy3, HBY⟩ := below2 HS.out HRY.out HU.out hos
      simp only [Value.iface.injEq] at ey
      obtain ⟨rfl, rfl⟩ := ey
      have HBY : Hid _ := HBY
      have HY1 : Hid _ := hy1
      have HY3 : Hid _ := hy3
      have HKS : Hid _ := hks
      have HH : Hid _ := h
      have HH1 : Hid _ := h1
      clear hos hy1 hal hg hks hy3 h h1
      go_wp2_with fail
      refine Calls.mono HBY.out ?_
      rintro e w1 ⟨g, rfl, hg1, hbl, hk1⟩
      have HS1 : Hid _ := SX.kept HS.out hk1
      have HK1 : Hid _ := hk1
      clear HBY hk1 hmy hcfy hg1
      obtain ⟨Tx, ux, fx, rvx, T2, u2, T4, u4, ex, hmx, hcfx, hx1, hx4, HBX⟩ := below2 HS1.out HRX.out HV.out HKS.out
      simp only [Value.iface.injEq] at ex
      obtain ⟨rfl, rfl⟩ := ex
      have HBX : Hid _ := HBX
      have HX1 : Hid _ := hx1
      have HX4 : Hid _ := hx4
      have HBL : Hid _ := hbl
      clear hx1 HKS hbl hx4
      go_wp2_with fail
      refine Calls.mono HBX.out ?_
      rintro e w2 ⟨g2, rfl, hg2, hbl2, hk2⟩
      have hblY := hk2.blk HBL.out
      have HC : Hid _ := HIH.out σ a c o1 HH1.out w2 ad _ _ ((HG.out.kept HK1.out).kept hk2) (SX.kept HS1.out hk2) HX1.out HY1.out
      have HK2 : Hid _ := Kt.of_kept (ad := ad) (S := fun _ => False) (HK1.out.trans hk2)
      clear HBX hk2 hmx hcfx hg2
      have d0 : w2.cell? ⟨g, 0, none⟩ = some (.iface T1 u1) := by simp [World.cell?, hblY]
      have d1 : w2.cell? ⟨g2, 0, none⟩ = some (.iface T2 u2) := by simp [World.cell?, hbl2]
      have HBY : Hid _ := hblY
      have HBX : Hid _ := hbl2
      clear hblY hbl2
      go_wp2_with fail
      refine wp_loop_rounds 3 ?_
      rw [rounds_succ]
      go_wp2_with fail
      refine Calls.mono HC.out ?_
      intro e w3 hE
      cases o1 with
      | er j =>
        have hh := HH.out
        simp only [Option.some.injEq] at hh
        subst hh
        obtain ⟨he, hk3⟩ := hE
        rw [show e = _ from he]
        have HF : Hid _ := HK2.out.trans hk3
        clear hk3 he
        go_wp2
        exact ⟨rfl, rfl, HF.out⟩
      | ok σ1 =>
        obtain ⟨rfl, hs3, hk3⟩ := hE
        have hb3 := hk3.typs HBY.out (fun z => z)
        have hb4 := hk3.typs HBX.out (fun z => z)
        have d2 : w3.cell? ⟨g, 1, none⟩ = some (.iface T3 u3) := by simp [World.cell?, hb3]
        have d3 : w3.cell? ⟨g2, 1, none⟩ = some (.iface T4 u4) := by simp [World.cell?, hb4]
        have HK3 : Hid _ := HK2.out.trans hk3
        have HC : Hid _ := HIH.out σ1 b d o HH.out w3 ad _ _ (HG.out.kt0 HK3.out) hs3 HX4.out HY3.out
        clear hk3 hs3 hb3 hb4 HIH
        go_wp2_with fail
        rw [rounds_succ]
        go_wp2_with fail
        refine Calls.mono HC.out ?_
        intro e w4 hE
        cases o with
        | er j =>
          obtain ⟨he, hk4⟩ := hE
          rw [show e = _ from he]
          have HF : Hid _ := HK3.out.trans hk4
          clear hk4 he
          go_wp2
          exact ⟨rfl, rfl, HF.out⟩
        | ok σ2 =>
          obtain ⟨rfl, hs4, hk4⟩ := hE
          have HF : Hid _ := And.intro hs4 (HK3.out.trans hk4)
          clear hk4 hs4
          go_wp2
          rw [rounds_succ]
          go_wp2
          exact bodyPost_end (results_none Tryz.results179 _ _ _) rfl ⟨rfl, HF.out⟩
    · simp at h
  · rename_i hal
    have hal : alkF x0 y0 = false := by simpa using hal
    simp only [Option.some.injEq] at h
    subst h
    rw [hal]
    have HR : Hid _ := prefuse_es (A 3) w
    go_wp2_with fail
    refine Calls.mono HR.out ?_
    rintro e w' ⟨rfl, hww⟩
    rw [hww]
    clear hww w' HR
    go_wp2
    exact ⟨rfl, rfl, Kt.refl _ _ _⟩
set_option maxRecDepth 20000 in
set_option maxHeartbeats 2000000 in
theorem eq_sx (A : Nat → Addr) (B : Nat) : ∀ n, SEq A B (fun σ x y => eqF n σ x y) := by
  intro n
  induction n with
  | zero => intro σ x y o h; simp [eqF] at h
  | succ n ih =>
    intro σ x y o h w ad v u hG hs hv hu
    simp only [eqF, Option.bind_eq_some_iff] at h
    obtain ⟨x0, hx, y0, hy, h⟩ := h
    have hx := repF_rp _ hx
    have hy := repF_rp _ hy
    have HKX : Hid _ := known_se hx w v hs hv
    have HKY : Hid _ := fun (w1 : World) (h1 : SX w1 ad σ) => known_se hy w1 u h1 hu
    have HRX : Hid _ := hx.root_of
    have HRY : Hid _ := hy.root_of
    have HG : Hid _ := hG
    have HIH : Hid _ := ih
    obtain ⟨T, z, rfl⟩ := hv.iface
    obtain ⟨T', z', rfl⟩ := hu.iface
    clear hG hs hv hu hx hy ih
    go_enter Tryz.func164, Tryz.ntmps164
    go_wp2_with fail
    refine Calls.mono HKX.out ?_
    rintro e w1 ⟨v0, rfl, hv0, hs1, hk1⟩
    have HC : Hid _ := HKY.out w1 hs1
    have HV0 : Hid _ := hv0
    have HK1 : Hid _ := hk1
    obtain ⟨T0, z0, rfl⟩ := hv0.iface
    clear hv0 hs1 hk1 HKX HKY
    go_wp2_with fail
    refine Calls.mono HC.out ?_
    rintro e w2 ⟨u0, rfl, hu0, hs2, hk2⟩
    have HU0 : Hid _ := hu0
    have HS2 : Hid _ := hs2
    have HK2 : Hid _ := HK1.out.trans hk2
    have HG2 : Hid _ := HG.out.kt0 HK2.out
    have heq := eql_tr hs2 HV0.out hu0
    obtain ⟨T1, z1, rfl⟩ := hu0.iface
    clear hu0 hs2 hk2 HC HK1 HG
    split at h
    · rename_i hb
      simp only [Option.some.injEq] at h
      subst h
      rw [hb] at heq
      go_wp2
      exact bodyPost_ret (results_none Tryz.results164 _ _ _) rfl ⟨rfl, HS2.out, HK2.out⟩
    · rename_i hb
      have hb : x0.eqb y0 = false := by simpa using hb
      rw [hb] at heq
      clear hb
      split at h
      · rename_i i hi
        obtain ⟨b, hbi, hve, _, hta⟩ := ta_var HV0.out hi
        have hta := hta w2
        have HC : Hid _ := bec_sx h w2 ad b _ HG2.out HS2.out hbi HU0.out
        clear h hve hi hbi
        go_wp2_with fail
        refine Calls.mono HC.out ?_
        intro e w3 hE
        cases o with
        | er j =>
          obtain ⟨he, hk3⟩ := hE
          rw [show e = _ from he]
          have HF : Hid _ := HK2.out.trans hk3
          clear hk3 he
          go_wp2
          exact ⟨rfl, rfl, HF.out⟩
        | ok σ1 =>
          obtain ⟨rfl, hs3, hk3⟩ := hE
          have HF : Hid _ := And.intro hs3 (HK2.out.trans hk3)
          clear hk3 hs3
          go_wp2
          exact bodyPost_ret (results_none Tryz.results164 _ _ _) rfl ⟨rfl, HF.out⟩
      · rename_i hi
        obtain ⟨p, hta⟩ := ta_not HV0.out hi
        have hta := hta w2
        split at h
        · rename_i j hj
          obtain ⟨b, hbj, hue, _, htb⟩ := ta_var HU0.out hj
          have htb := htb w2
          have HC : Hid _ := bec_sx h w2 ad b _ HG2.out HS2.out hbj HV0.out
          clear h hue hj hbj hi
          go_wp2_with fail
          refine Calls.mono HC.out ?_
          intro e w3 hE
          cases o with
          | er j =>
            obtain ⟨he, hk3⟩ := hE
            rw [show e = _ from he]
            have HF : Hid _ := HK2.out.trans hk3
            clear hk3 he
            go_wp2
            exact ⟨rfl, rfl, HF.out⟩
          | ok σ1 =>
            obtain ⟨rfl, hs3, hk3⟩ := hE
            have HF : Hid _ := And.intro hs3 (HK2.out.trans hk3)
            clear hk3 hs3
            go_wp2
            exact bodyPost_ret (results_none Tryz.results164 _ _ _) rfl ⟨rfl, HF.out⟩
        · rename_i hj
          obtain ⟨q, htb⟩ := ta_not HU0.out hj
          have htb := htb w2
          simp only [Option.bind_eq_some_iff] at h
          obtain ⟨o1, h1, h⟩ := h
          have HC : Hid _ := beq_sx HIH.out h1 hi HRX.out HRY.out w2 ad _ _ HG2.out HS2.out HV0.out HU0.out
          clear h1 hi hj HIH
          go_wp2_with fail
          refine Calls.mono HC.out ?_
          intro e w3 hE
          cases o1 with
          | er j =>
            simp only [Option.some.injEq] at h
            subst h
            obtain ⟨he, hk3⟩ := hE
            rw [show e = _ from he]
            have HF : Hid _ := HK2.out.trans hk3
            clear hk3 he
            go_wp2
            exact ⟨rfl, rfl, HF.out⟩
          | ok σ1 =>
            obtain ⟨rfl, hs3, hk3⟩ := hE
            cases x0 with
            | int => simp at h
            | bool => simp at h
            | nd k i =>
              simp only [Option.bind_eq_some_iff, Option.some.injEq] at h
              obtain ⟨τ, hτ, rfl⟩ := h
              obtain ⟨b, hbi, hve⟩ := HV0.out
              simp only [Value.iface.injEq] at hve
              obtain ⟨rfl, rfl⟩ := hve
              obtain ⟨⟨c, hx1, hx2⟩, hx3, hx4⟩ := SX.set hs3 hτ hbi HU0.out
              have HX : Hid _ := And.intro hx3 ((HK2.out.trans hk3).trans hx4)
              have hm := Tryz.fAny k b w3
              have HF : Hid _ := find_ptr b w3
              clear hx3 hx4 hτ hbi hs3 hk3 HC
              go_wp2_with fail
              refine Calls.mono HF.out ?_
              rintro e w' ⟨rfl, hww⟩
              rw [hww]
              clear hww w' HF
              go_wp2
              exact bodyPost_end (results_none Tryz.results164 _ _ _) rfl ⟨rfl, HX.out⟩
end Go.Proofs.YtleenphlgbklmabGreatDoor

namespace Go.Proofs.YtleenphlgbklmabGreatDoor
open Go.RowKit

/-- a map of variables to variables, by their blocks. -/
def vE : List (Nat × Nat) → Nat → List MapEntry
  | [], _ => []
  | e :: l, i => { key := .pointer (some ⟨e.1, 0, none⟩), val := .pointer (some ⟨e.2, 0, none⟩), born := i } :: vE l (i + 1)
theorem vE_snoc (l : List (Nat × Nat)) (e : Nat × Nat) : ∀ i, vE (l ++ [e]) i = vE l i ++ [{ key := .pointer (some ⟨e.1, 0, none⟩), val := .pointer (some ⟨e.2, 0, none⟩), born := i + l.length }] := by
  induction l with
  | nil => intro i; simp [vE]
  | cons c l ih =>
    intro i
    have e : i + 1 + l.length = i + (l.length + 1) := by omega
    simp [vE, ih, e]
def askB (b : Nat) : List (Nat × Nat) → Nat → Option (Nat × Value)
  | [], _ => none
  | e :: l, i => if b == e.1 then some (i, .pointer (some ⟨e.2, 0, none⟩)) else askB b l (i + 1)
structure VVb (w : World) (mb : Nat) (l : List (Nat × Nat)) : Prop where
  mp : w.heap[mb]? = some (.map (vE l 0).toArray l.length)
  vr : ∀ e, e ∈ l → VBk w e.1
theorem ask_vb (w : World) (b : Nat) (hb : VBk w b) (l : List (Nat × Nat)) : ∀ (i : Nat), (∀ c, c ∈ l → VBk w c.1) → (Instr.findAsking 124 (.pointer (some ⟨b, 0, none⟩)) (vE l i) i).run Tryz.prog w = .ok (askB b l i) w := by
  induction l with
  | nil => intro i _; rfl
  | cons c l ih =>
    intro i h
    have he := eq_vars w b c.1 hb (h c (by simp))
    have hi := ih (i + 1) (fun x hx => h x (by simp [hx]))
    simp only [vE, Instr.findAsking, Sem.run_bind, he, Result.andThen, askB]
    cases hbc : b == c.1 with
    | true => simp
    | false => simp only [Bool.false_eq_true, if_false, hi]
theorem key_vb (w : World) (b : Nat) (hb : VBk w b) (l : List (Nat × Nat)) (h : ∀ c, c ∈ l → VBk w c.1) : (Instr.findKey 124 (.pointer (some ⟨b, 0, none⟩)) (vE l 0)).run Tryz.prog w = .ok (askB b l 0) w := by
  have ha := ask_vb w b hb l 0 h
  cases l with
  | nil => simp [Instr.findKey, run_underlying Tryz.underlying124, vE, Instr.findNow, askB]
  | cons c l =>
    have hf : Instr.findNow (.pointer 148) (.pointer (some ⟨b, 0, none⟩)) (vE (c :: l) 0) 0 = none := by simp [vE, Instr.findNow, Instr.sameNow]
    simp only [Instr.findKey, Sem.run_bind, run_underlying Tryz.underlying124, Result.andThen, hf]
    exact ha
theorem run_vblook {w : World} {mb b : Nat} {l : List (Nat × Nat)} (h : VVb w mb l) (hb : VBk w b) (MT : TypeId) (hu : Tryz.prog.underlying MT = some (.map 124 124)) :
    (Instr.lookup MT (.map (some mb)) (.pointer (some ⟨b, 0, none⟩)) true).run Tryz.prog w = .ok (match askB b l 0 with | some x => .tuple #[x.2, .bool true] | none => .tuple #[.pointer none, .bool false]) w := by
  have hf := key_vb w b hb l h.vr
  have hc : ∀ e, (Instr.checkKey e 10000 124 (.pointer (some ⟨b, 0, none⟩))).run Tryz.prog w = .ok () w := fun e => ck_var e 9999 b w
  have hz : (zeroValue 124).run Tryz.prog w = .ok (.pointer none) w := by kernel_rfl
  simp only [Instr.lookup, Sem.run_bind, run_underlying hu, MapKept.run_getObj_map h.mp, Result.andThen, Sem.run_pure, hc, hf]
  cases askB b l 0 with
  | none => simp [hz, Result.andThen]
  | some j => simp
theorem run_vblook1 {w : World} {mb b : Nat} {l : List (Nat × Nat)} (h : VVb w mb l) (hb : VBk w b) (MT : TypeId) (hu : Tryz.prog.underlying MT = some (.map 124 124)) :
    (Instr.lookup MT (.map (some mb)) (.pointer (some ⟨b, 0, none⟩)) false).run Tryz.prog w = .ok (match askB b l 0 with | some x => x.2 | none => .pointer none) w := by
  have hf := key_vb w b hb l h.vr
  have hc : ∀ e, (Instr.checkKey e 10000 124 (.pointer (some ⟨b, 0, none⟩))).run Tryz.prog w = .ok () w := fun e => ck_var e 9999 b w
  have hz : (zeroValue 124).run Tryz.prog w = .ok (.pointer none) w := by kernel_rfl
  simp only [Instr.lookup, Sem.run_bind, run_underlying hu, MapKept.run_getObj_map h.mp, Result.andThen, Sem.run_pure, hc, hf]
  cases askB b l 0 with
  | none => simp [hz, Result.andThen]
  | some j => simp
theorem run_vbput {w : World} {mb b : Nat} {l : List (Nat × Nat)} (h : VVb w mb l) (hb : VBk w b) (c : Nat) (MT : TypeId) (hu : Tryz.prog.underlying MT = some (.map 124 124)) (hj : askB b l 0 = none) :
    (Instr.mapUpdate MT (.map (some mb)) (.pointer (some ⟨b, 0, none⟩)) (.pointer (some ⟨c, 0, none⟩))).run Tryz.prog w = .ok () (mapSet w mb (.map (vE (l ++ [(b, c)]) 0).toArray (l.length + 1))) := by
  have hf := key_vb w b hb l h.vr
  rw [hj] at hf
  have hc : (Instr.checkKey false 10000 124 (.pointer (some ⟨b, 0, none⟩))).run Tryz.prog w = .ok () w := ck_var false 9999 b w
  have e : (vE l 0).toArray.push { key := .pointer (some ⟨b, 0, none⟩), val := .pointer (some ⟨c, 0, none⟩), born := l.length } = (vE (l ++ [(b, c)]) 0).toArray := by
    rw [vE_snoc]
    simp
  rw [← e]
  simp [Instr.mapUpdate, run_underlying hu, MapKept.run_getObj_map h.mp, hc, hf, MapKept.run_setObj_map _ h.mp, Result.andThen, mapSet]
/-- the pairs, by where the variables lie. -/
def MB (ad : List Nat) : List (Nat × Nat) → List (Nat × Nat) → Prop
  | [], [] => True
  | e :: m, c :: l => ad[e.1]? = some c.1 ∧ ad[e.2]? = some c.2 ∧ MB ad m l
  | _, _ => False
theorem MB.up {ad : List Nat} (u : List Nat) : ∀ {m l : List (Nat × Nat)}, MB ad m l → MB (ad ++ u) m l
  | [], [], _ => trivial
  | e :: m, c :: l, h => ⟨by rw [List.getElem?_append_left (List.getElem?_eq_some_iff.1 h.1).1]; exact h.1, by rw [List.getElem?_append_left (List.getElem?_eq_some_iff.1 h.2.1).1]; exact h.2.1, h.2.2.up u⟩
  | [], _ :: _, h => h.elim
  | _ :: _, [], h => h.elim
theorem MB.snoc {ad : List Nat} {i j b c : Nat} (hi : ad[i]? = some b) (hj : ad[j]? = some c) : ∀ {m l : List (Nat × Nat)}, MB ad m l → MB ad (m ++ [(i, j)]) (l ++ [(b, c)])
  | [], [], _ => ⟨hi, hj, trivial⟩
  | e :: m, c :: l, h => ⟨h.1, h.2.1, MB.snoc hi hj h.2.2⟩
  | [], _ :: _, h => h.elim
  | _ :: _, [], h => h.elim
theorem MB.look {ad : List Nat} (hd : ad.Nodup) {i b : Nat} (hi : ad[i]? = some b) : ∀ {m l : List (Nat × Nat)} (k : Nat), MB ad m l → (∀ j, lookF i m = some j → ∃ p c, askB b l k = some (p, .pointer (some ⟨c, 0, none⟩)) ∧ ad[j]? = some c) ∧ (lookF i m = none → askB b l k = none)
  | [], [], k, _ => ⟨fun j h => by simp [lookF] at h, fun _ => rfl⟩
  | e :: m, c :: l, k, h => by
    have ih := MB.look hd hi (k + 1) h.2.2
    by_cases q : i = e.1
    · have : b = c.1 := by
        rw [q, h.1] at hi
        simpa using hi.symm
      simp only [lookF, askB, q, this, BEq.rfl, if_true]
      exact ⟨fun j hj => by
        simp only [Option.some.injEq] at hj
        subst hj
        exact ⟨_, _, rfl, h.2.1⟩, fun z => by simp at z⟩
    · have : ¬ b = c.1 := fun z => q (nodup_get hd hi (z ▸ h.1))
      have e1 : (i == e.1) = false := by simpa using q
      have e2 : (b == c.1) = false := by simpa using this
      simp only [lookF, askB, e1, e2, Bool.false_eq_true, if_false]
      exact ih
  | [], _ :: _, _, h => h.elim
  | _ :: _, [], _, h => h.elim
def VK (σ : St) (m : List (Nat × Nat)) : Prop := ∀ e, e ∈ m → ∃ nd, σ[e.1]? = some nd ∧ nd.k.kd = .vr
/-- the map of variables lies in memory. -/
def VV (w : World) (mb : Nat) (ad : List Nat) (σ : St) (m : List (Nat × Nat)) : Prop := ∃ l, w.heap[mb]? = some (.map (vE l 0).toArray l.length) ∧ MB ad m l ∧ VK σ m
theorem SX.vbk2 {w : World} {ad : List Nat} {σ : St} (hs : SX w ad σ) {i b : Nat} {nd : Nd} (hi : σ[i]? = some nd) (hk : nd.k.kd = .vr) (hb : ad[i]? = some b) : VBk w b := by
  obtain ⟨τ, h1, h2⟩ := hs
  obtain ⟨s', h3, _⟩ := h2.kk i nd.k nd.s hi
  obtain ⟨sv, o, h4, _, h5⟩ := h1.blk i nd.k s' b h3 hb
  cases hn : nd.k with
  | vr nm g =>
    rw [hn] at h5
    exact ⟨_, h4.trans (congrArg some h5)⟩
  | ls x => rw [hn] at hk; cases hk
  | pr x y => rw [hn] at hk; cases hk
  | ar x y => rw [hn] at hk; cases hk
theorem MB.mem {ad : List Nat} : ∀ {m l : List (Nat × Nat)}, MB ad m l → ∀ c, c ∈ l → ∃ e, e ∈ m ∧ ad[e.1]? = some c.1
  | [], [], _, c, h => by simp at h
  | e :: m, d :: l, h, c, hc => by
    rcases List.mem_cons.1 hc with rfl | hc
    · exact ⟨e, by simp, h.1⟩
    · obtain ⟨e', h1, h2⟩ := MB.mem h.2.2 c hc
      exact ⟨e', by simp [h1], h2⟩
  | [], _ :: _, h, _, _ => h.elim
  | _ :: _, [], h, _, _ => h.elim
theorem VV.b {w : World} {mb : Nat} {ad : List Nat} {σ : St} {m : List (Nat × Nat)} (h : VV w mb ad σ m) (hs : SX w ad σ) : ∃ l, VVb w mb l ∧ MB ad m l := by
  obtain ⟨l, h1, h2, h3⟩ := h
  refine ⟨l, ⟨h1, fun c hc => ?_⟩, h2⟩
  obtain ⟨e, he, ha⟩ := h2.mem c hc
  obtain ⟨nd, g1, g2⟩ := h3 e he
  exact hs.vbk2 g1 g2 ha
theorem SX.nodup {w : World} {ad : List Nat} {σ : St} (hs : SX w ad σ) : ad.Nodup := by
  obtain ⟨τ, h1, _⟩ := hs
  exact h1.inj
theorem SX.len {w : World} {ad : List Nat} {σ : St} (hs : SX w ad σ) : ad.length = σ.length := by
  obtain ⟨τ, h1, h2⟩ := hs
  rw [h1.len, h2.len]
/-- a variable is asked for. -/
theorem look_vv {w : World} {mb : Nat} {ad : List Nat} {σ : St} {m : List (Nat × Nat)} (h : VV w mb ad σ m) (hs : SX w ad σ) {i b : Nat} {nd : Nd} (hi : σ[i]? = some nd) (hk : nd.k.kd = .vr) (hb : ad[i]? = some b) (MT : TypeId) (hu : Tryz.prog.underlying MT = some (.map 124 124)) :
    (∀ j, lookF i m = some j → ∃ c, ad[j]? = some c ∧ (Instr.lookup MT (.map (some mb)) (.pointer (some ⟨b, 0, none⟩)) true).run Tryz.prog w = .ok (.tuple #[.pointer (some ⟨c, 0, none⟩), .bool true]) w ∧ (Instr.lookup MT (.map (some mb)) (.pointer (some ⟨b, 0, none⟩)) false).run Tryz.prog w = .ok (.pointer (some ⟨c, 0, none⟩)) w) ∧
    (lookF i m = none → (Instr.lookup MT (.map (some mb)) (.pointer (some ⟨b, 0, none⟩)) true).run Tryz.prog w = .ok (.tuple #[.pointer none, .bool false]) w ∧ (Instr.lookup MT (.map (some mb)) (.pointer (some ⟨b, 0, none⟩)) false).run Tryz.prog w = .ok (.pointer none) w) := by
  obtain ⟨l, h1, h2⟩ := h.b hs
  have hv := hs.vbk2 hi hk hb
  have q1 := run_vblook h1 hv MT hu
  have q2 := run_vblook1 h1 hv MT hu
  obtain ⟨m1, m2⟩ := h2.look hs.nodup hb 0
  refine ⟨fun j hj => ?_, fun hn => ?_⟩
  · obtain ⟨p, c, e1, e2⟩ := m1 j hj
    rw [e1] at q1 q2
    exact ⟨c, e2, q1, q2⟩
  · rw [m2 hn] at q1 q2
    exact ⟨q1, q2⟩
theorem put_vv {w : World} {mb : Nat} {ad : List Nat} {σ : St} {m : List (Nat × Nat)} (h : VV w mb ad σ m) (hs : SX w ad σ) {i b j c : Nat} {nd : Nd} (hi : σ[i]? = some nd) (hk : nd.k.kd = .vr) (hb : ad[i]? = some b) (hj : ad[j]? = some c) (hn : lookF i m = none) (MT : TypeId) (hu : Tryz.prog.underlying MT = some (.map 124 124)) :
    ∃ w', (Instr.mapUpdate MT (.map (some mb)) (.pointer (some ⟨b, 0, none⟩)) (.pointer (some ⟨c, 0, none⟩))).run Tryz.prog w = .ok () w' ∧ SX w' ad σ ∧ VV w' mb ad σ (m ++ [(i, j)]) ∧ Kt ad (fun q => q = mb) w w' := by
  have hV := h
  obtain ⟨l, h1, h2⟩ := h.b hs
  have hv := hs.vbk2 hi hk hb
  refine ⟨_, run_vbput h1 hv c MT hu ((h2.look hs.nodup hb 0).2 hn), hs.mapSet h1.mp _, ⟨l ++ [(b, c)], ?_, h2.snoc hb hj, ?_⟩, Kt.mapset h1.mp _⟩
  · rw [mapSet_same _ _ _ (lt_of_block h1.mp)]
    simp
  · obtain ⟨_, _, _, h3⟩ := hV
    intro e he
    simp at he
    rcases he with he | rfl
    · exact h3 e he
    · exact ⟨nd, hi, hk⟩
theorem VV.kt {w w' : World} {mb : Nat} {ad ad2 : List Nat} {σ : St} {m : List (Nat × Nat)} {S : Nat → Prop} (h : VV w mb ad σ m) (k : Kt ad2 S w w') (hS : ¬ S mb) : VV w' mb ad σ m := by
  obtain ⟨l, h1, h2, h3⟩ := h
  exact ⟨l, k.blk _ _ h1 hS (by rintro ⟨cs, e, f, he, _⟩; cases he), h2, h3⟩
theorem VV.up {w : World} {mb : Nat} {ad : List Nat} {σ : St} {m : List (Nat × Nat)} (h : VV w mb ad σ m) (u : List Nat) (t : St) : VV w mb (ad ++ u) (σ ++ t) m := by
  obtain ⟨l, h1, h2, h3⟩ := h
  exact ⟨l, h1, h2.up u, fun e he => by
    obtain ⟨nd, g1, g2⟩ := h3 e he
    exact ⟨nd, by rw [List.getElem?_append_left (List.getElem?_eq_some_iff.1 g1).1]; exact g1, g2⟩⟩
end Go.Proofs.YtleenphlgbklmabGreatDoor
