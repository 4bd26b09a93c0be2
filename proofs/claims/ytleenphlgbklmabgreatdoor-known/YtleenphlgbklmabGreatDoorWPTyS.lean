import Derived.Test.YtleenphlgbklmabGreatDoorWPGa
import Derived.Test.YtleenphlgbklmabGreatDoorWPSt
import Derived.Test.YtleenphlgbklmabGreatDoorWTxC
set_option linter.unusedVariables false
set_option linter.unusedSimpArgs false
namespace Go.Proofs.YtleenphlgbklmabGreatDoor
open Go.RowKit

theorem Tryz.mkPS (w : World) : (Instr.makeMap 232 none).run Tryz.prog w = .ok (.map (some w.heap.size)) (w.alloc (.map #[] 0)) := by kernel_rfl
/-- how a call that changes the store ends. -/
def EqO (A : Nat → Addr) (ad : List Nat) (w : World) (e : Ending) (w' : World) : Oc St → Prop
  | .ok σ => e = .returned (.tuple #[]) ∧ SX w' ad σ ∧ Kt ad (fun _ => False) w w'
  | .er j => Thr A j e ∧ Kt ad (fun _ => False) w w'
theorem SX.set {w : World} {ad : List Nat} {σ τ : St} {i b : Nat} {r : TR} {v : Value} (hs : SX w ad σ) (h : stF σ i r = some τ) (hb : ad[i]? = some b) (hv : RV ad r v) :
    (∃ x, w.frozen? ⟨b, 0, none⟩ = false ∧ w.cell? ⟨b, 0, none⟩ = some x) ∧ SX (w.setCell ⟨b, 0, none⟩ v) ad τ ∧ Kt ad (fun _ => False) w (w.setCell ⟨b, 0, none⟩ v) := by
  obtain ⟨nk, hi, hr, hne, rfl⟩ := stF_some h
  obtain ⟨o, ho, hn⟩ := hs.blk hi hb
  obtain ⟨ρ, h1, h2⟩ := hs
  obtain ⟨cs, ty, rfl, h3, _⟩ := hn.first
  refine ⟨⟨_, by simp [World.frozen?, ho], hn.cell ho⟩, ⟨_, h1.found (h2.root hi) hb hv, h2.set hi hr hne⟩, Kt.setT ho hn.tb (List.mem_of_getElem? hb) _ _⟩
theorem TMp.none (w : World) (ad : List Nat) : TMp (w.alloc (.map #[] 0)) w.heap.size ad (pvP []) := ⟨heap_alloc_new _ _, by simp [pvP]⟩
theorem Kt.drop {ad : List Nat} {w w1 w' : World} {mb : Nat} (h : Kept w w1) (k : Kt ad (fun q => q = mb) w1 w') (hm : w.heap.size ≤ mb) : Kt ad (fun _ => False) w w' := ⟨k.os.trans h.os, k.output.trans h.output, Nat.le_trans h.size k.size, fun q o hq _ ht => k.blk0 q o (h.blk hq) (fun z => by have := lt_of_block hq; omega) ht⟩
set_option maxRecDepth 20000 in
set_option maxHeartbeats 2000000 in
theorem bec_sx {A : Nat → Addr} {B : Nat} {σ : St} {i : Nat} {t : TR} {o : Oc St} (h : becF σ i t = some o) (w : World) (ad : List Nat) (b : Nat) (v : Value) (hG : GA A B ad w) (hs : SX w ad σ) (hb : ad[i]? = some b) (hv : RV ad t v) :
    Calls Tryz.prog 178 #[.pointer (some ⟨b, 0, none⟩), v] w fun e w' => EqO A ad w e w' o := by
  simp only [becF, Option.bind_eq_some_iff] at h
  obtain ⟨l, hl, h⟩ := h
  have m1 := Tryz.mkPS w
  have hk1 : Kept w (w.alloc (.map #[] 0)) := Kept.alloc _ _
  have HA : Hid _ := add_sx 500 σ t [] l hl (w.alloc (.map #[] 0)) ad v w.heap.size (hs.kept hk1) hv (TMp.none w ad)
  have HS : Hid _ := hs
  have HG : Hid _ := hG
  have HV : Hid _ := hv
  obtain ⟨T, u, rfl⟩ := hv.iface
  clear hs hG hl hv
  go_enter Tryz.func178, Tryz.ntmps178
  go_wp2_with fail
  refine Calls.mono HA.out ?_
  rintro e w2 ⟨rfl, hs2, hm2, hk2⟩
  have HK2 : Hid (Kt ad (fun _ => False) w w2) := Kt.drop hk1 hk2 (Nat.le_refl _)
  have HS2 : Hid _ := hs2
  have HH : Hid _ := has_ps hs2 (r := .nd .vr i) ⟨b, hb, rfl⟩ hm2
  simp only [Kd.tp] at HH
  clear HA hk2 hm2 hs2 m1 hk1
  go_wp2_with fail
  refine Calls.mono HH.out ?_
  rintro e w3 ⟨rfl, hk3⟩
  have HK3 : Hid _ := HK2.out.trans (Kt.of_kept hk3)
  have HS3 : Hid _ := SX.kept HS2.out hk3
  have HG3 := HG.out.kt0 HK3.out
  have hg := HG3.glb.c3
  clear HH hk3 HK2 HS2 HG3
  split at h
  · rename_i hmem
    simp only [Option.some.injEq] at h
    subst h
    rw [hmem]
    have HR : Hid _ := prefuse_es (A 3) w3
    go_wp2_with fail
    refine Calls.mono HR.out ?_
    rintro e w' ⟨rfl, hww⟩
    rw [hww]
    clear hww w' HR
    go_wp2
    exact ⟨rfl, rfl, HK3.out⟩
  · rename_i hmem
    have hmem : memT (.nd .vr i) l = false := by simpa using hmem
    rw [hmem]
    simp only [Option.bind_eq_some_iff, Option.some.injEq] at h
    obtain ⟨τ, hτ, rfl⟩ := h
    obtain ⟨⟨x, hx1, hx2⟩, hx3, hx4⟩ := SX.set HS3.out hτ hb HV.out
    have HX : Hid _ := And.intro hx3 (HK3.out.trans hx4)
    clear hx3 hx4 hτ hmem
    go_wp2
    exact bodyPost_end (results_none Tryz.results178 _ _ _) rfl ⟨rfl, HX.out⟩
/-- the program's makeEqual does what the mirror does. -/
def SEq (A : Nat → Addr) (B : Nat) (f : St → TR → TR → Option (Oc St)) : Prop := ∀ (σ : St) (x y : TR) (o : Oc St), f σ x y = some o → ∀ (w : World) (ad : List Nat) (v u : Value), GA A B ad w → SX w ad σ → RV ad x v → RV ad y u →
  Calls Tryz.prog 164 #[v, u] w fun e w' => EqO A ad w e w' o
set_option maxRecDepth 20000 in
set_option maxHeartbeats 2000000 in
theorem beq_sx {A : Nat → Addr} {B : Nat} {f : St → TR → TR → Option (Oc St)} (ih : SEq A B f) {σ : St} {x0 y0 : TR} {o : Oc St} (h : belF f σ x0 y0 = some o) (hx : isVr x0 = none) (rx : Rp σ x0 x0) (ry : Rp σ y0 y0) (w : World) (ad : List Nat) (v u : Value) (hG : GA A B ad w) (hs : SX w ad σ) (hv : RV ad x0 v) (hu : RV ad y0 u) :
    Calls Tryz.prog 179 #[v, u] w fun e w' => EqO A ad w e w' o := by
  have HA : Hid _ := alike_tr hv hu hx w
  have hg := hG.glb.c3
  have HG : Hid _ := hG
  have HS : Hid _ := hs
  have HV : Hid _ := hv
  have HU : Hid _ := hu
  have HRX : Hid _ := rx
  have HRY : Hid _ := ry
  have HIH : Hid _ := ih
  obtain ⟨T, z, rfl⟩ := hv.iface
  obtain ⟨T', z', rfl⟩ := hu.iface
  clear hG hs hv hu rx ry ih hx
  go_enter Tryz.func179, Tryz.ntmps179
  go_wp2_with fail
  refine Calls.mono HA.out ?_
  rintro e w' ⟨rfl, hww⟩
  rw [hww]
  clear hww w' HA
  simp only [belF] at h
  split at h
  · rename_i hal
    rw [hal]
    simp only [Option.bind_eq_some_iff] at h
    obtain ⟨os, hos, ks, hks, h⟩ := h
    split at h
    · rename_i a c
      obtain ⟨Ty, uy, fy, rvy, T1, u1, ey, hmy, hcfy, hy1, HBY⟩ := below1 HS.out HRY.out HU.out hos
      simp only [Value.iface.injEq] at ey
      obtain ⟨rfl, rfl⟩ := ey
      have HBY : Hid _ := HBY
      have HY1 : Hid _ := hy1
      have HKS : Hid _ := hks
      clear hos hy1 hal hg hks
      go_wp2_with fail
      refine Calls.mono HBY.out ?_
      rintro e w1 ⟨g, rfl, hg1, hbl, hk1⟩
      have HS1 : Hid _ := SX.kept HS.out hk1
      have HK1 : Hid _ := hk1
      clear HBY hk1 hmy hcfy hg1
      obtain ⟨Tx, ux, fx, rvx, T2, u2, ex, hmx, hcfx, hx1, HBX⟩ := below1 HS1.out HRX.out HV.out HKS.out
      simp only [Value.iface.injEq] at ex
      obtain ⟨rfl, rfl⟩ := ex
      have HBX : Hid _ := HBX
      have HX1 : Hid _ := hx1
      have HBL : Hid _ := hbl
      clear hx1 HKS hbl
      go_wp2_with fail
      refine Calls.mono HBX.out ?_
      rintro e w2 ⟨g2, rfl, hg2, hbl2, hk2⟩
      have hblY := hk2.blk HBL.out
      have HC : Hid _ := HIH.out σ a c o h w2 ad _ _ ((HG.out.kept HK1.out).kept hk2) (SX.kept HS1.out hk2) HX1.out HY1.out
      have HK2 : Hid _ := Kt.of_kept (ad := ad) (S := fun _ => False) (HK1.out.trans hk2)
      clear HBX hk2 hmx hcfx hg2 h HIH
      have d0 : w2.cell? ⟨g, 0, none⟩ = some (.iface T1 u1) := by simp [World.cell?, hblY]
      have d1 : w2.cell? ⟨g2, 0, none⟩ = some (.iface T2 u2) := by simp [World.cell?, hbl2]
      clear hblY hbl2
      go_wp2_with fail
      refine wp_loop_rounds 2 ?_
      rw [rounds_succ]
      go_wp2_with fail
      refine Calls.mono HC.out ?_
      intro e w3 hE
      cases o with
      | er j =>
        obtain ⟨he, hk3⟩ := hE
        rw [show e = _ from he]
        have HF : Hid _ := HK2.out.trans hk3
        clear hk3 he
        go_wp2
        exact ⟨rfl, rfl, HF.out⟩
      | ok σ1 =>
        obtain ⟨rfl, hs3, hk3⟩ := hE
        have HF : Hid _ := And.intro hs3 (HK2.out.trans hk3)
        clear hk3 hs3
        go_wp2
        rw [rounds_succ]
        go_wp2
        exact bodyPost_end (results_none Tryz.results179 _ _ _) rfl ⟨rfl, HF.out⟩
    · rename_i a b c d
      simp only [Option.bind_eq_some_iff] at h
      obtain ⟨o1, h1, h⟩ := h
      obtain ⟨Ty, uy, fy, rvy, T1, u1, T3, u3, ey, hmy, hcfy, hy1, hy3, HBY⟩ := below2 HS.out HRY.out HU.out hos
      simp only [Value.iface.injEq] at ey
      obtain ⟨rfl, rfl⟩ := ey
      have HBY : Hid _ := HBY
      have HY1 : Hid _ := hy1
      have HY3 : Hid _ := hy3
      have HKS : Hid _ := hks
      have HH : Hid _ := h
      have HH1 : Hid _ := h1
      clear hos hy1 hal hg hks hy3 h h1
      go_wp2_with fail
      refine Calls.mono HBY.out ?_
      rintro e w1 ⟨g, rfl, hg1, hbl, hk1⟩
      have HS1 : Hid _ := SX.kept HS.out hk1
      have HK1 : Hid _ := hk1
      clear HBY hk1 hmy hcfy hg1
      obtain ⟨Tx, ux, fx, rvx, T2, u2, T4, u4, ex, hmx, hcfx, hx1, hx4, HBX⟩ := below2 HS1.out HRX.out HV.out HKS.out
      simp only [Value.iface.injEq] at ex
      obtain ⟨rfl, rfl⟩ := ex
      have HBX : Hid _ := HBX
      have HX1 : Hid _ := hx1
      have HX4 : Hid _ := hx4
      have HBL : Hid _ := hbl
      clear hx1 HKS hbl hx4
      go_wp2_with fail
      refine Calls.mono HBX.out ?_
      rintro e w2 ⟨g2, rfl, hg2, hbl2, hk2⟩
      have hblY := hk2.blk HBL.out
      have HC : Hid _ := HIH.out σ a c o1 HH1.out w2 ad _ _ ((HG.out.kept HK1.out).kept hk2) (SX.kept HS1.out hk2) HX1.out HY1.out
      have HK2 : Hid _ := Kt.of_kept (ad := ad) (S := fun _ => False) (HK1.out.trans hk2)
      clear HBX hk2 hmx hcfx hg2
      have d0 : w2.cell? ⟨g, 0, none⟩ = some (.iface T1 u1) := by simp [World.cell?, hblY]
      have d1 : w2.cell? ⟨g2, 0, none⟩ = some (.iface T2 u2) := by simp [World.cell?, hbl2]
      have HBY : Hid _ := hblY
      have HBX : Hid _ := hbl2
      clear hblY hbl2
      go_wp2_with fail
      refine wp_loop_rounds 3 ?_
      rw [rounds_succ]
      go_wp2_with fail
      refine Calls.mono HC.out ?_
      intro e w3 hE
      cases o1 with
      | er j =>
        have hh := HH.out
        simp only [Option.some.injEq] at hh
        subst hh
        obtain ⟨he, hk3⟩ := hE
        rw [show e = _ from he]
        have HF : Hid _ := HK2.out.trans hk3
        clear hk3 he
        go_wp2
        exact ⟨rfl, rfl, HF.out⟩
      | ok σ1 =>
        obtain ⟨rfl, hs3, hk3⟩ := hE
        have hb3 := hk3.typs HBY.out (fun z => z)
        have hb4 := hk3.typs HBX.out (fun z => z)
        have d2 : w3.cell? ⟨g, 1, none⟩ = some (.iface T3 u3) := by simp [World.cell?, hb3]
        have d3 : w3.cell? ⟨g2, 1, none⟩ = some (.iface T4 u4) := by simp [World.cell?, hb4]
        have HK3 : Hid _ := HK2.out.trans hk3
        have HC : Hid _ := HIH.out σ1 b d o HH.out w3 ad _ _ (HG.out.kt0 HK3.out) hs3 HX4.out HY3.out
        clear hk3 hs3 hb3 hb4 HIH
        go_wp2_with fail
        rw [rounds_succ]
        go_wp2_with fail
        refine Calls.mono HC.out ?_
        intro e w4 hE
        cases o with
        | er j =>
          obtain ⟨he, hk4⟩ := hE
          rw [show e = _ from he]
          have HF : Hid _ := HK3.out.trans hk4
          clear hk4 he
          go_wp2
          exact ⟨rfl, rfl, HF.out⟩
        | ok σ2 =>
          obtain ⟨rfl, hs4, hk4⟩ := hE
          have HF : Hid _ := And.intro hs4 (HK3.out.trans hk4)
          clear hk4 hs4
          go_wp2
          rw [rounds_succ]
          go_wp2
          exact bodyPost_end (results_none Tryz.results179 _ _ _) rfl ⟨rfl, HF.out⟩
    · simp at h
  · rename_i hal
    have hal : alkF x0 y0 = false := by simpa using hal
    simp only [Option.some.injEq] at h
    subst h
    rw [hal]
    have HR : Hid _ := prefuse_es (A 3) w
    go_wp2_with fail
    refine Calls.mono HR.out ?_
    rintro e w' ⟨rfl, hww⟩
    rw [hww]
    clear hww w' HR
    go_wp2
    exact ⟨rfl, rfl, Kt.refl _ _ _⟩
set_option maxRecDepth 20000 in
set_option maxHeartbeats 2000000 in
theorem eq_sx (A : Nat → Addr) (B : Nat) : ∀ n, SEq A B (fun σ x y => eqF n σ x y) := by
  intro n
  induction n with
  | zero => intro σ x y o h; simp [eqF] at h
  | succ n ih =>
    intro σ x y o h w ad v u hG hs hv hu
    simp only [eqF, Option.bind_eq_some_iff] at h
    obtain ⟨x0, hx, y0, hy, h⟩ := h
    have hx := repF_rp _ hx
    have hy := repF_rp _ hy
    have HKX : Hid _ := known_se hx w v hs hv
    have HKY : Hid _ := fun (w1 : World) (h1 : SX w1 ad σ) => known_se hy w1 u h1 hu
    have HRX : Hid _ := hx.root_of
    have HRY : Hid _ := hy.root_of
    have HG : Hid _ := hG
    have HIH : Hid _ := ih
    obtain ⟨T, z, rfl⟩ := hv.iface
    obtain ⟨T', z', rfl⟩ := hu.iface
    clear hG hs hv hu hx hy ih
    go_enter Tryz.func164, Tryz.ntmps164
    go_wp2_with fail
    refine Calls.mono HKX.out ?_
    rintro e w1 ⟨v0, rfl, hv0, hs1, hk1⟩
    have HC : Hid _ := HKY.out w1 hs1
    have HV0 : Hid _ := hv0
    have HK1 : Hid _ := hk1
    obtain ⟨T0, z0, rfl⟩ := hv0.iface
    clear hv0 hs1 hk1 HKX HKY
    go_wp2_with fail
    refine Calls.mono HC.out ?_
    rintro e w2 ⟨u0, rfl, hu0, hs2, hk2⟩
    have HU0 : Hid _ := hu0
    have HS2 : Hid _ := hs2
    have HK2 : Hid _ := HK1.out.trans hk2
    have HG2 : Hid _ := HG.out.kt0 HK2.out
    have heq := eql_tr hs2 HV0.out hu0
    obtain ⟨T1, z1, rfl⟩ := hu0.iface
    clear hu0 hs2 hk2 HC HK1 HG
    split at h
    · rename_i hb
      simp only [Option.some.injEq] at h
      subst h
      rw [hb] at heq
      go_wp2
      exact bodyPost_ret (results_none Tryz.results164 _ _ _) rfl ⟨rfl, HS2.out, HK2.out⟩
    · rename_i hb
      have hb : x0.eqb y0 = false := by simpa using hb
      rw [hb] at heq
      clear hb
      split at h
      · rename_i i hi
        obtain ⟨b, hbi, hve, _, hta⟩ := ta_var HV0.out hi
        have hta := hta w2
        have HC : Hid _ := bec_sx h w2 ad b _ HG2.out HS2.out hbi HU0.out
        clear h hve hi hbi
        go_wp2_with fail
        refine Calls.mono HC.out ?_
        intro e w3 hE
        cases o with
        | er j =>
          obtain ⟨he, hk3⟩ := hE
          rw [show e = _ from he]
          have HF : Hid _ := HK2.out.trans hk3
          clear hk3 he
          go_wp2
          exact ⟨rfl, rfl, HF.out⟩
        | ok σ1 =>
          obtain ⟨rfl, hs3, hk3⟩ := hE
          have HF : Hid _ := And.intro hs3 (HK2.out.trans hk3)
          clear hk3 hs3
          go_wp2
          exact bodyPost_ret (results_none Tryz.results164 _ _ _) rfl ⟨rfl, HF.out⟩
      · rename_i hi
        obtain ⟨p, hta⟩ := ta_not HV0.out hi
        have hta := hta w2
        split at h
        · rename_i j hj
          obtain ⟨b, hbj, hue, _, htb⟩ := ta_var HU0.out hj
          have htb := htb w2
          have HC : Hid _ := bec_sx h w2 ad b _ HG2.out HS2.out hbj HV0.out
          clear h hue hj hbj hi
          go_wp2_with fail
          refine Calls.mono HC.out ?_
          intro e w3 hE
          cases o with
          | er j =>
            obtain ⟨he, hk3⟩ := hE
            rw [show e = _ from he]
            have HF : Hid _ := HK2.out.trans hk3
            clear hk3 he
            go_wp2
            exact ⟨rfl, rfl, HF.out⟩
          | ok σ1 =>
            obtain ⟨rfl, hs3, hk3⟩ := hE
            have HF : Hid _ := And.intro hs3 (HK2.out.trans hk3)
            clear hk3 hs3
            go_wp2
            exact bodyPost_ret (results_none Tryz.results164 _ _ _) rfl ⟨rfl, HF.out⟩
        · rename_i hj
          obtain ⟨q, htb⟩ := ta_not HU0.out hj
          have htb := htb w2
          simp only [Option.bind_eq_some_iff] at h
          obtain ⟨o1, h1, h⟩ := h
          have HC : Hid _ := beq_sx HIH.out h1 hi HRX.out HRY.out w2 ad _ _ HG2.out HS2.out HV0.out HU0.out
          clear h1 hi hj HIH
          go_wp2_with fail
          refine Calls.mono HC.out ?_
          intro e w3 hE
          cases o1 with
          | er j =>
            simp only [Option.some.injEq] at h
            subst h
            obtain ⟨he, hk3⟩ := hE
            rw [show e = _ from he]
            have HF : Hid _ := HK2.out.trans hk3
            clear hk3 he
            go_wp2
            exact ⟨rfl, rfl, HF.out⟩
          | ok σ1 =>
            obtain ⟨rfl, hs3, hk3⟩ := hE
            cases x0 with
            | int => simp at h
            | bool => simp at h
            | nd k i =>
              simp only [Option.bind_eq_some_iff, Option.some.injEq] at h
              obtain ⟨τ, hτ, rfl⟩ := h
              obtain ⟨b, hbi, hve⟩ := HV0.out
              simp only [Value.iface.injEq] at hve
              obtain ⟨rfl, rfl⟩ := hve
              obtain ⟨⟨c, hx1, hx2⟩, hx3, hx4⟩ := SX.set hs3 hτ hbi HU0.out
              have HX : Hid _ := And.intro hx3 ((HK2.out.trans hk3).trans hx4)
              have hm := Tryz.fAny k b w3
              have HF : Hid _ := find_ptr b w3
              clear hx3 hx4 hτ hbi hs3 hk3 HC
              go_wp2_with fail
              refine Calls.mono HF.out ?_
              rintro e w' ⟨rfl, hww⟩
              rw [hww]
              clear hww w' HF
              go_wp2
              exact bodyPost_end (results_none Tryz.results164 _ _ _) rfl ⟨rfl, HX.out⟩
end Go.Proofs.YtleenphlgbklmabGreatDoor

namespace Go.Proofs.YtleenphlgbklmabGreatDoor
open Go.RowKit

/-- a map of variables to variables, by their blocks. -/
def vE : List (Nat × Nat) → Nat → List MapEntry
  | [], _ => []
  | e :: l, i => { key := .pointer (some ⟨e.1, 0, none⟩), val := .pointer (some ⟨e.2, 0, none⟩), born := i } :: vE l (i + 1)
theorem vE_snoc (l : List (Nat × Nat)) (e : Nat × Nat) : ∀ i, vE (l ++ [e]) i = vE l i ++ [{ key := .pointer (some ⟨e.1, 0, none⟩), val := .pointer (some ⟨e.2, 0, none⟩), born := i + l.length }] := by
  induction l with
  | nil => intro i; simp [vE]
  | cons c l ih =>
    intro i
    have e : i + 1 + l.length = i + (l.length + 1) := by omega
    simp [vE, ih, e]
def askB (b : Nat) : List (Nat × Nat) → Nat → Option (Nat × Value)
  | [], _ => none
  | e :: l, i => if b == e.1 then some (i, .pointer (some ⟨e.2, 0, none⟩)) else askB b l (i + 1)
structure VVb (w : World) (mb : Nat) (l : List (Nat × Nat)) : Prop where
  mp : w.heap[mb]? = some (.map (vE l 0).toArray l.length)
  vr : ∀ e, e ∈ l → VBk w e.1
theorem ask_vb (w : World) (b : Nat) (hb : VBk w b) (l : List (Nat × Nat)) : ∀ (i : Nat), (∀ c, c ∈ l → VBk w c.1) → (Instr.findAsking 124 (.pointer (some ⟨b, 0, none⟩)) (vE l i) i).run Tryz.prog w = .ok (askB b l i) w := by
  induction l with
  | nil => intro i _; rfl
  | cons c l ih =>
    intro i h
    have he := eq_vars w b c.1 hb (h c (by simp))
    have hi := ih (i + 1) (fun x hx => h x (by simp [hx]))
    simp only [vE, Instr.findAsking, Sem.run_bind, he, Result.andThen, askB]
    cases hbc : b == c.1 with
    | true => simp
    | false => simp only [Bool.false_eq_true, if_false, hi]
theorem key_vb (w : World) (b : Nat) (hb : VBk w b) (l : List (Nat × Nat)) (h : ∀ c, c ∈ l → VBk w c.1) : (Instr.findKey 124 (.pointer (some ⟨b, 0, none⟩)) (vE l 0)).run Tryz.prog w = .ok (askB b l 0) w := by
  have ha := ask_vb w b hb l 0 h
  cases l with
  | nil => simp [Instr.findKey, run_underlying Tryz.underlying124, vE, Instr.findNow, askB]
  | cons c l =>
    have hf : Instr.findNow (.pointer 148) (.pointer (some ⟨b, 0, none⟩)) (vE (c :: l) 0) 0 = none := by simp [vE, Instr.findNow, Instr.sameNow]
    simp only [Instr.findKey, Sem.run_bind, run_underlying Tryz.underlying124, Result.andThen, hf]
    exact ha
theorem run_vblook {w : World} {mb b : Nat} {l : List (Nat × Nat)} (h : VVb w mb l) (hb : VBk w b) (MT : TypeId) (hu : Tryz.prog.underlying MT = some (.map 124 124)) :
    (Instr.lookup MT (.map (some mb)) (.pointer (some ⟨b, 0, none⟩)) true).run Tryz.prog w = .ok (match askB b l 0 with | some x => .tuple #[x.2, .bool true] | none => .tuple #[.pointer none, .bool false]) w := by
  have hf := key_vb w b hb l h.vr
  have hc : ∀ e, (Instr.checkKey e 10000 124 (.pointer (some ⟨b, 0, none⟩))).run Tryz.prog w = .ok () w := fun e => ck_var e 9999 b w
  have hz : (zeroValue 124).run Tryz.prog w = .ok (.pointer none) w := by kernel_rfl
  simp only [Instr.lookup, Sem.run_bind, run_underlying hu, MapKept.run_getObj_map h.mp, Result.andThen, Sem.run_pure, hc, hf]
  cases askB b l 0 with
  | none => simp [hz, Result.andThen]
  | some j => simp
theorem run_vblook1 {w : World} {mb b : Nat} {l : List (Nat × Nat)} (h : VVb w mb l) (hb : VBk w b) (MT : TypeId) (hu : Tryz.prog.underlying MT = some (.map 124 124)) :
    (Instr.lookup MT (.map (some mb)) (.pointer (some ⟨b, 0, none⟩)) false).run Tryz.prog w = .ok (match askB b l 0 with | some x => x.2 | none => .pointer none) w := by
  have hf := key_vb w b hb l h.vr
  have hc : ∀ e, (Instr.checkKey e 10000 124 (.pointer (some ⟨b, 0, none⟩))).run Tryz.prog w = .ok () w := fun e => ck_var e 9999 b w
  have hz : (zeroValue 124).run Tryz.prog w = .ok (.pointer none) w := by kernel_rfl
  simp only [Instr.lookup, Sem.run_bind, run_underlying hu, MapKept.run_getObj_map h.mp, Result.andThen, Sem.run_pure, hc, hf]
  cases askB b l 0 with
  | none => simp [hz, Result.andThen]
  | some j => simp
theorem run_vbput {w : World} {mb b : Nat} {l : List (Nat × Nat)} (h : VVb w mb l) (hb : VBk w b) (c : Nat) (MT : TypeId) (hu : Tryz.prog.underlying MT = some (.map 124 124)) (hj : askB b l 0 = none) :
    (Instr.mapUpdate MT (.map (some mb)) (.pointer (some ⟨b, 0, none⟩)) (.pointer (some ⟨c, 0, none⟩))).run Tryz.prog w = .ok () (mapSet w mb (.map (vE (l ++ [(b, c)]) 0).toArray (l.length + 1))) := by
  have hf := key_vb w b hb l h.vr
  rw [hj] at hf
  have hc : (Instr.checkKey false 10000 124 (.pointer (some ⟨b, 0, none⟩))).run Tryz.prog w = .ok () w := ck_var false 9999 b w
  have e : (vE l 0).toArray.push { key := .pointer (some ⟨b, 0, none⟩), val := .pointer (some ⟨c, 0, none⟩), born := l.length } = (vE (l ++ [(b, c)]) 0).toArray := by
    rw [vE_snoc]
    simp
  rw [← e]
  simp [Instr.mapUpdate, run_underlying hu, MapKept.run_getObj_map h.mp, hc, hf, MapKept.run_setObj_map _ h.mp, Result.andThen, mapSet]
/-- the pairs, by where the variables lie. -/
def MB (ad : List Nat) : List (Nat × Nat) → List (Nat × Nat) → Prop
  | [], [] => True
  | e :: m, c :: l => ad[e.1]? = some c.1 ∧ ad[e.2]? = some c.2 ∧ MB ad m l
  | _, _ => False
theorem MB.up {ad : List Nat} (u : List Nat) : ∀ {m l : List (Nat × Nat)}, MB ad m l → MB (ad ++ u) m l
  | [], [], _ => trivial
  | e :: m, c :: l, h => ⟨by rw [List.getElem?_append_left (List.getElem?_eq_some_iff.1 h.1).1]; exact h.1, by rw [List.getElem?_append_left (List.getElem?_eq_some_iff.1 h.2.1).1]; exact h.2.1, h.2.2.up u⟩
  | [], _ :: _, h => h.elim
  | _ :: _, [], h => h.elim
theorem MB.snoc {ad : List Nat} {i j b c : Nat} (hi : ad[i]? = some b) (hj : ad[j]? = some c) : ∀ {m l : List (Nat × Nat)}, MB ad m l → MB ad (m ++ [(i, j)]) (l ++ [(b, c)])
  | [], [], _ => ⟨hi, hj, trivial⟩
  | e :: m, c :: l, h => ⟨h.1, h.2.1, MB.snoc hi hj h.2.2⟩
  | [], _ :: _, h => h.elim
  | _ :: _, [], h => h.elim
theorem MB.look {ad : List Nat} (hd : ad.Nodup) {i b : Nat} (hi : ad[i]? = some b) : ∀ {m l : List (Nat × Nat)} (k : Nat), MB ad m l → (∀ j, lookF i m = some j → ∃ p c, askB b l k = some (p, .pointer (some ⟨c, 0, none⟩)) ∧ ad[j]? = some c) ∧ (lookF i m = none → askB b l k = none)
  | [], [], k, _ => ⟨fun j h => by simp [lookF] at h, fun _ => rfl⟩
  | e :: m, c :: l, k, h => by
    have ih := MB.look hd hi (k + 1) h.2.2
    by_cases q : i = e.1
    · have : b = c.1 := by
        rw [q, h.1] at hi
        simpa using hi.symm
      simp only [lookF, askB, q, this, BEq.rfl, if_true]
      exact ⟨fun j hj => by
        simp only [Option.some.injEq] at hj
        subst hj
        exact ⟨_, _, rfl, h.2.1⟩, fun z => by simp at z⟩
    · have : ¬ b = c.1 := fun z => q (nodup_get hd hi (z ▸ h.1))
      have e1 : (i == e.1) = false := by simpa using q
      have e2 : (b == c.1) = false := by simpa using this
      simp only [lookF, askB, e1, e2, Bool.false_eq_true, if_false]
      exact ih
  | [], _ :: _, _, h => h.elim
  | _ :: _, [], _, h => h.elim
def VK (σ : St) (m : List (Nat × Nat)) : Prop := ∀ e, e ∈ m → ∃ nd, σ[e.1]? = some nd ∧ nd.k.kd = .vr
/-- the map of variables lies in memory. -/
def VV (w : World) (mb : Nat) (ad : List Nat) (σ : St) (m : List (Nat × Nat)) : Prop := ∃ l, w.heap[mb]? = some (.map (vE l 0).toArray l.length) ∧ MB ad m l ∧ VK σ m
theorem SX.vbk2 {w : World} {ad : List Nat} {σ : St} (hs : SX w ad σ) {i b : Nat} {nd : Nd} (hi : σ[i]? = some nd) (hk : nd.k.kd = .vr) (hb : ad[i]? = some b) : VBk w b := by
  obtain ⟨τ, h1, h2⟩ := hs
  obtain ⟨s', h3, _⟩ := h2.kk i nd.k nd.s hi
  obtain ⟨sv, o, h4, _, h5⟩ := h1.blk i nd.k s' b h3 hb
  cases hn : nd.k with
  | vr nm g =>
    rw [hn] at h5
    exact ⟨_, h4.trans (congrArg some h5)⟩
  | ls x => rw [hn] at hk; cases hk
  | pr x y => rw [hn] at hk; cases hk
  | ar x y => rw [hn] at hk; cases hk
theorem MB.mem {ad : List Nat} : ∀ {m l : List (Nat × Nat)}, MB ad m l → ∀ c, c ∈ l → ∃ e, e ∈ m ∧ ad[e.1]? = some c.1
  | [], [], _, c, h => by simp at h
  | e :: m, d :: l, h, c, hc => by
    rcases List.mem_cons.1 hc with rfl | hc
    · exact ⟨e, by simp, h.1⟩
    · obtain ⟨e', h1, h2⟩ := MB.mem h.2.2 c hc
      exact ⟨e', by simp [h1], h2⟩
  | [], _ :: _, h, _, _ => h.elim
  | _ :: _, [], h, _, _ => h.elim
theorem VV.b {w : World} {mb : Nat} {ad : List Nat} {σ : St} {m : List (Nat × Nat)} (h : VV w mb ad σ m) (hs : SX w ad σ) : ∃ l, VVb w mb l ∧ MB ad m l := by
  obtain ⟨l, h1, h2, h3⟩ := h
  refine ⟨l, ⟨h1, fun c hc => ?_⟩, h2⟩
  obtain ⟨e, he, ha⟩ := h2.mem c hc
  obtain ⟨nd, g1, g2⟩ := h3 e he
  exact hs.vbk2 g1 g2 ha
theorem SX.nodup {w : World} {ad : List Nat} {σ : St} (hs : SX w ad σ) : ad.Nodup := by
  obtain ⟨τ, h1, _⟩ := hs
  exact h1.inj
theorem SX.len {w : World} {ad : List Nat} {σ : St} (hs : SX w ad σ) : ad.length = σ.length := by
  obtain ⟨τ, h1, h2⟩ := hs
  rw [h1.len, h2.len]
/-- a variable is asked for. -/
theorem look_vv {w : World} {mb : Nat} {ad : List Nat} {σ : St} {m : List (Nat × Nat)} (h : VV w mb ad σ m) (hs : SX w ad σ) {i b : Nat} {nd : Nd} (hi : σ[i]? = some nd) (hk : nd.k.kd = .vr) (hb : ad[i]? = some b) (MT : TypeId) (hu : Tryz.prog.underlying MT = some (.map 124 124)) :
    (∀ j, lookF i m = some j → ∃ c, ad[j]? = some c ∧ (Instr.lookup MT (.map (some mb)) (.pointer (some ⟨b, 0, none⟩)) true).run Tryz.prog w = .ok (.tuple #[.pointer (some ⟨c, 0, none⟩), .bool true]) w ∧ (Instr.lookup MT (.map (some mb)) (.pointer (some ⟨b, 0, none⟩)) false).run Tryz.prog w = .ok (.pointer (some ⟨c, 0, none⟩)) w) ∧
    (lookF i m = none → (Instr.lookup MT (.map (some mb)) (.pointer (some ⟨b, 0, none⟩)) true).run Tryz.prog w = .ok (.tuple #[.pointer none, .bool false]) w ∧ (Instr.lookup MT (.map (some mb)) (.pointer (some ⟨b, 0, none⟩)) false).run Tryz.prog w = .ok (.pointer none) w) := by
  obtain ⟨l, h1, h2⟩ := h.b hs
  have hv := hs.vbk2 hi hk hb
  have q1 := run_vblook h1 hv MT hu
  have q2 := run_vblook1 h1 hv MT hu
  obtain ⟨m1, m2⟩ := h2.look hs.nodup hb 0
  refine ⟨fun j hj => ?_, fun hn => ?_⟩
  · obtain ⟨p, c, e1, e2⟩ := m1 j hj
    rw [e1] at q1 q2
    exact ⟨c, e2, q1, q2⟩
  · rw [m2 hn] at q1 q2
    exact ⟨q1, q2⟩
theorem put_vv {w : World} {mb : Nat} {ad : List Nat} {σ : St} {m : List (Nat × Nat)} (h : VV w mb ad σ m) (hs : SX w ad σ) {i b j c : Nat} {nd : Nd} (hi : σ[i]? = some nd) (hk : nd.k.kd = .vr) (hb : ad[i]? = some b) (hj : ad[j]? = some c) (hn : lookF i m = none) (MT : TypeId) (hu : Tryz.prog.underlying MT = some (.map 124 124)) :
    ∃ w', (Instr.mapUpdate MT (.map (some mb)) (.pointer (some ⟨b, 0, none⟩)) (.pointer (some ⟨c, 0, none⟩))).run Tryz.prog w = .ok () w' ∧ SX w' ad σ ∧ VV w' mb ad σ (m ++ [(i, j)]) ∧ Kt ad (fun q => q = mb) w w' := by
  have hV := h
  obtain ⟨l, h1, h2⟩ := h.b hs
  have hv := hs.vbk2 hi hk hb
  refine ⟨_, run_vbput h1 hv c MT hu ((h2.look hs.nodup hb 0).2 hn), hs.mapSet h1.mp _, ⟨l ++ [(b, c)], ?_, h2.snoc hb hj, ?_⟩, Kt.mapset h1.mp _⟩
  · rw [mapSet_same _ _ _ (lt_of_block h1.mp)]
    simp
  · obtain ⟨_, _, _, h3⟩ := hV
    intro e he
    simp at he
    rcases he with he | rfl
    · exact h3 e he
    · exact ⟨nd, hi, hk⟩
theorem VV.kt {w w' : World} {mb : Nat} {ad ad2 : List Nat} {σ : St} {m : List (Nat × Nat)} {S : Nat → Prop} (h : VV w mb ad σ m) (k : Kt ad2 S w w') (hS : ¬ S mb) : VV w' mb ad σ m := by
  obtain ⟨l, h1, h2, h3⟩ := h
  exact ⟨l, k.blk _ _ h1 hS (by rintro ⟨cs, e, f, he, _⟩; cases he), h2, h3⟩
theorem VV.up {w : World} {mb : Nat} {ad : List Nat} {σ : St} {m : List (Nat × Nat)} (h : VV w mb ad σ m) (u : List Nat) (t : St) : VV w mb (ad ++ u) (σ ++ t) m := by
  obtain ⟨l, h1, h2, h3⟩ := h
  exact ⟨l, h1, h2.up u, fun e he => by
    obtain ⟨nd, g1, g2⟩ := h3 e he
    exact ⟨nd, by rw [List.getElem?_append_left (List.getElem?_eq_some_iff.1 g1).1]; exact g1, g2⟩⟩
end Go.Proofs.YtleenphlgbklmabGreatDoor

namespace Go.Proofs.YtleenphlgbklmabGreatDoor
open Go.RowKit

/-- a node's block was changed. -/
theorem SW.upd {w w' : World} {ad : List Nat} {τ : St} (h : SW w ad τ) {i b : Nat} {x : Nd} {nk : NK} {s : Option TR} {sv : Value} {o : Obj} (hi : τ[i]? = some x) (hb : ad[i]? = some b) (ho : w'.heap[b]? = some o) (hv : SV ad s sv) (hn : NBk ad nk sv o) (hk : ∀ q, q ≠ b → w'.heap[q]? = w.heap[q]?) : SW w' ad (τ.set i ⟨nk, s⟩) := by
  refine ⟨by simp [h.len], h.inj, ?_⟩
  intro j mk s' c hj hc
  by_cases e : i = j
  · subst e
    rw [hb] at hc
    simp at hc
    subst hc
    have hlt := (List.getElem?_eq_some_iff.1 hi).1
    simp [hlt] at hj
    obtain ⟨rfl, rfl⟩ := hj
    exact ⟨sv, o, ho, hv, hn⟩
  · rw [List.getElem?_set_ne e] at hj
    obtain ⟨sv', o', h3, h4, h5⟩ := h.blk j mk s' c hj hc
    exact ⟨sv', o', (hk c (fun z => e (nodup_get h.inj hb (z ▸ hc)))).trans h3, h4, h5⟩
theorem SX.mark {w : World} {ad : List Nat} {σ : St} (hs : SX w ad σ) {i b : Nat} {nm : ByteArray} {g : Bool} (hi : σ[i]? = some ⟨.vr nm g, none⟩) (hb : ad[i]? = some b) :
    (∃ x, w.frozen? ⟨b, 2, none⟩ = false ∧ w.cell? ⟨b, 2, none⟩ = some x) ∧ SX (w.setCell ⟨b, 2, none⟩ (.bool true)) ad (σ.set i ⟨.vr nm true, none⟩) ∧ Kt ad (fun _ => False) w (w.setCell ⟨b, 2, none⟩ (.bool true)) := by
  obtain ⟨o, ho, hn⟩ := hs.blk hi hb
  have ht := hn.tb
  have ho' := ho
  rw [show o = _ from hn] at ho
  obtain ⟨τ, h1, h2⟩ := hs
  refine ⟨⟨_, by simp [World.frozen?, ho], by simp [World.cell?, ho]; rfl⟩, ⟨_, h1.upd (nk := .vr nm true) (h2.root hi) hb (o := .cells #[.nilIface, .string nm, .bool true] 148 (0, 0)) ?_ (s := none) (sv := .nilIface) rfl rfl (fun q hq => Below.heap_setCell _ _ _ q hq), h2.mark (nk := .vr nm g) (nk' := .vr nm true) rfl hi⟩, Kt.setT ho' ht (List.mem_of_getElem? hb) _ _⟩
  simp [World.setCell, ho, Array.getElem?_modify]
def SGen (n : Nat) : Prop := ∀ (σ σ' : St) (r : TR) (bd : List TR), genF n σ r bd = some σ' → ∀ (w : World) (ad : List Nat) (v : Value) (mb : Nat), SX w ad σ → RV ad r v → TMp w mb ad (pvP bd) →
  Calls Tryz.prog 102 #[v, .map (some mb)] w fun e w' => e = .returned (.tuple #[]) ∧ SX w' ad σ' ∧ TMp w' mb ad (pvP bd) ∧ Kt ad (fun _ => False) w w'
theorem mark_root {σ : St} {i : Nat} {k : Kd} (hr : Rp σ (.nd .vr i) (.nd k i)) : ∃ nm g, σ[i]? = some ⟨.vr nm g, none⟩ ∧ markF σ (.nd .vr i) = σ.set i ⟨.vr nm true, none⟩ ∧ Rp (σ.set i ⟨.vr nm true, none⟩) (.nd .vr i) (.nd .vr i) ∧ kidsF (σ.set i ⟨.vr nm true, none⟩) (.nd .vr i) = some [] := by
  obtain ⟨nk, hk, hi⟩ := hr.rt
  obtain ⟨nk2, s, hk2, hi2⟩ := rp_nd hr
  rw [hi] at hi2
  simp only [Option.some.injEq, Nd.mk.injEq] at hi2
  obtain ⟨rfl, rfl⟩ := hi2
  cases nk with
  | vr nm g =>
    have hl := (List.getElem?_eq_some_iff.1 hi).1
    have e : (σ.set i ⟨.vr nm true, none⟩)[i]? = some ⟨.vr nm true, none⟩ := by rw [List.getElem?_set_self hl]
    exact ⟨nm, g, hi, by simp [markF, hi], Rp.root i (.vr nm true) e, by simp only [kidsF, e]⟩
  | ls x => cases hk2
  | pr x y => cases hk2
  | ar x y => cases hk2
set_option maxRecDepth 20000 in
set_option maxHeartbeats 2000000 in
theorem gen_sx : ∀ n, SGen n := by
  intro n
  induction n with
  | zero => intro σ σ' r bd h; simp [genF] at h
  | succ n ih =>
    intro σ σ' r bd h w ad v mb hs hv hm
    simp only [genF, Option.bind_eq_some_iff] at h
    obtain ⟨r0, hr, h⟩ := h
    have hr := repF_rp _ hr
    have HK : Hid _ := known_se hr w v hs hv
    have HIH : Hid (∀ (σ σ' : St) (r : TR), genF n σ r bd = some σ' → ∀ (w : World) (v : Value), SX w ad σ → RV ad r v → TMp w mb ad (pvP bd) → Calls Tryz.prog 102 #[v, .map (some mb)] w fun e w' => e = .returned (.tuple #[]) ∧ SX w' ad σ' ∧ TMp w' mb ad (pvP bd) ∧ Kt ad (fun _ => False) w w') := fun σ σ' r h w v => ih σ σ' r bd h w ad v mb
    have HR : Hid _ := hr.root_of
    have HM : Hid _ := hm
    obtain ⟨T, u, rfl⟩ := hv.iface
    clear hs hr hv ih hm
    go_enter Tryz.func102, Tryz.ntmps102
    go_wp2_with fail
    refine Calls.mono HK.out ?_
    rintro e w1 ⟨v0, rfl, hv0, hs1, hk1⟩
    clear HK
    have HS1 : Hid _ := hs1
    have HK1 : Hid _ := hk1
    have hm1 := HM.out.kt hk1 id
    have HM1 : Hid _ := hm1
    have HH : Hid _ := has_ps hs1 hv0 hm1
    have HV0 : Hid _ := hv0
    obtain ⟨T0, u0, rfl⟩ := hv0.iface
    clear hs1 hk1 hm1 hv0 HM
    go_wp2_with fail
    refine Calls.mono HH.out ?_
    rintro e w2 ⟨rfl, hkh⟩
    have HS2 : Hid _ := SX.kept HS1.out hkh
    have HM2 : Hid _ := HM1.out.keptP hkh
    have HK2 : Hid _ := HK1.out.trans (Kt.of_kept hkh)
    clear HH hkh HS1 HM1 HK1
    split at h
    · rename_i hb
      simp only [Option.some.injEq] at h
      subst h
      rw [hb]
      go_wp2
      exact bodyPost_ret (results_none Tryz.results102 _ _ _) rfl ⟨rfl, HS2.out, HM2.out, HK2.out⟩
    · rename_i hb
      have hb : memT r0 bd = false := by simpa using hb
      rw [hb]
      split at h
      · rename_i i hi
        obtain ⟨b, hbi, hve, hre, hta⟩ := ta_var HV0.out hi
        have hta := hta w2
        simp only [Option.some.injEq] at h
        subst h
        have hrr := HR.out
        rw [hre] at hrr
        obtain ⟨nm, gg, hi, hmk, hrt, hkk⟩ := mark_root hrr
        obtain ⟨⟨x, hx1, hx2⟩, hx3, hx4⟩ := SX.mark HS2.out hi hbi
        rw [← hmk, ← hre] at hx3
        have HX3 : Hid _ := hx3
        have HX4 : Hid _ := HK2.out.trans hx4
        have HX5 : Hid _ := HM2.out.kt hx4 id
        obtain ⟨T9, u9, f, rv, e9, hm, hcf, HB⟩ := below0 (w := w2.setCell ⟨b, 2, none⟩ (.bool true)) hrt (hre ▸ HV0.out) hkk
        simp only [Value.iface.injEq] at e9
        obtain ⟨rfl, rfl⟩ := e9
        have HB : Hid _ := HB
        clear hx3 hx4 hkk hrt hmk hi hbi hb hve hre HR HIH hrr
        go_wp2_with fail
        refine Calls.mono HB.out ?_
        rintro e w3 ⟨rfl, hk3⟩
        have HF : Hid _ := And.intro (SX.kept HX3.out hk3) (And.intro (HX5.out.keptP hk3) (HX4.out.trans (Kt.of_kept hk3)))
        clear hk3 HB hm hcf
        go_wp2
        refine wp_loop_rounds 1 ?_
        rw [rounds_succ]
        go_wp2
        exact bodyPost_end (results_none Tryz.results102 _ _ _) rfl ⟨rfl, HF.out⟩
      · rename_i hi
        obtain ⟨p, hta⟩ := ta_not HV0.out hi
        have hta := hta w2
        simp only [Option.bind_eq_some_iff] at h
        obtain ⟨ks, hk, h⟩ := h
        clear hi hb
        split at h
        · simp only [Option.some.injEq] at h
          subst h
          obtain ⟨T9, u9, f, rv, e9, hm, hcf, HB⟩ := below0 (w := w2) HR.out HV0.out hk
          simp only [Value.iface.injEq] at e9
          obtain ⟨rfl, rfl⟩ := e9
          have HB : Hid _ := HB
          clear HIH HR hk
          go_wp2_with fail
          refine Calls.mono HB.out ?_
          rintro e w3 ⟨rfl, hk3⟩
          have HF : Hid _ := And.intro (SX.kept HS2.out hk3) (And.intro (HM2.out.keptP hk3) (HK2.out.trans (Kt.of_kept hk3)))
          clear hk3 HB hm hcf
          go_wp2
          refine wp_loop_rounds 1 ?_
          rw [rounds_succ]
          go_wp2
          exact bodyPost_end (results_none Tryz.results102 _ _ _) rfl ⟨rfl, HF.out⟩
        · rename_i x
          obtain ⟨T9, u9, f, rv, T1, u1, e9, hm, hcf, hx, HB⟩ := below1 HS2.out HR.out HV0.out hk
          simp only [Value.iface.injEq] at e9
          obtain ⟨rfl, rfl⟩ := e9
          have HB : Hid _ := HB
          have HX : Hid _ := hx
          have HC : Hid _ := HIH.out _ _ x h
          clear HR hk hx h HIH
          go_wp2_with fail
          refine Calls.mono HB.out ?_
          rintro e w3 ⟨g, rfl, hg, hbl, hk3⟩
          have HC : Hid _ := HC.out w3 _ (SX.kept HS2.out hk3) HX.out (HM2.out.keptP hk3)
          have HK3 : Hid _ := HK2.out.trans (Kt.of_kept hk3)
          clear hk3 HB hm hcf
          have d0 : w3.cell? ⟨g, 0, none⟩ = some (.iface T1 u1) := by simp [World.cell?, hbl]
          clear hbl hg
          go_wp2_with fail
          refine wp_loop_rounds 2 ?_
          rw [rounds_succ]
          go_wp2_with fail
          refine Calls.mono HC.out ?_
          rintro e w4 ⟨rfl, hs4, hm4, hk4⟩
          have HF : Hid _ := And.intro hs4 (And.intro hm4 (HK3.out.trans hk4))
          clear hs4 hk4 hm4 HC
          go_wp2
          rw [rounds_succ]
          go_wp2
          exact bodyPost_end (results_none Tryz.results102 _ _ _) rfl ⟨rfl, HF.out⟩
        · rename_i x y
          simp only [Option.bind_eq_some_iff] at h
          obtain ⟨σ1, h1, h⟩ := h
          obtain ⟨T9, u9, f, rv, T1, u1, T2, u2, e9, hm, hcf, hx, hy, HB⟩ := below2 HS2.out HR.out HV0.out hk
          simp only [Value.iface.injEq] at e9
          obtain ⟨rfl, rfl⟩ := e9
          have HB : Hid _ := HB
          have HX : Hid _ := hx
          have HY : Hid _ := hy
          have HC : Hid _ := HIH.out _ _ x h1
          have HD : Hid _ := HIH.out _ _ y h
          clear HR hk hx hy h h1 HIH
          go_wp2_with fail
          refine Calls.mono HB.out ?_
          rintro e w3 ⟨g, rfl, hg, hbl, hk3⟩
          have HC : Hid _ := HC.out w3 _ (SX.kept HS2.out hk3) HX.out (HM2.out.keptP hk3)
          have HK3 : Hid _ := HK2.out.trans (Kt.of_kept hk3)
          clear hk3 HB hm hcf
          have d0 : w3.cell? ⟨g, 0, none⟩ = some (.iface T1 u1) := by simp [World.cell?, hbl]
          have HBL : Hid _ := hbl
          clear hbl hg
          go_wp2_with fail
          refine wp_loop_rounds 3 ?_
          rw [rounds_succ]
          go_wp2_with fail
          refine Calls.mono HC.out ?_
          rintro e w4 ⟨rfl, hs4, hm4, hk4⟩
          have hbl4 := hk4.typs HBL.out (fun z => z)
          have d1 : w4.cell? ⟨g, 1, none⟩ = some (.iface T2 u2) := by simp [World.cell?, hbl4]
          have HD : Hid _ := HD.out w4 _ hs4 HY.out hm4
          have HK4 : Hid _ := HK3.out.trans hk4
          clear hs4 hk4 hm4 HC hbl4
          go_wp2_with fail
          rw [rounds_succ]
          go_wp2_with fail
          refine Calls.mono HD.out ?_
          rintro e w5 ⟨rfl, hs5, hm5, hk5⟩
          have HF : Hid _ := And.intro hs5 (And.intro hm5 (HK4.out.trans hk5))
          clear hs5 hk5 hm5 HD
          go_wp2
          rw [rounds_succ]
          go_wp2
          exact bodyPost_end (results_none Tryz.results102 _ _ _) rfl ⟨rfl, HF.out⟩
        · simp at h
end Go.Proofs.YtleenphlgbklmabGreatDoor

namespace Go.Proofs.YtleenphlgbklmabGreatDoor
open Go.RowKit

def RIn (n : Nat) : TR → Prop
  | .nd _ i => i < n
  | _ => True
/-- the ways lead to nodes of the store. -/
def WS (σ : St) : Prop := ∀ (i : Nat) (nk : NK) (r : TR), σ[i]? = some ⟨nk, some r⟩ → RIn σ.length r
theorem RIn.up {n m : Nat} {r : TR} (h : RIn n r) (hm : n ≤ m) : RIn m r := by
  cases r with
  | int => trivial
  | bool => trivial
  | nd k i => exact Nat.lt_of_lt_of_le h hm
theorem Rp.rin {σ : St} {a r : TR} (h : Rp σ a r) : RIn σ.length r := by
  cases r with
  | int => trivial
  | bool => trivial
  | nd k i =>
    obtain ⟨nk, _, hi⟩ := h.rt
    exact (List.getElem?_eq_some_iff.1 hi).1
theorem WS.set {σ τ : St} {i : Nat} {r : TR} (h : WS σ) (hs : stF σ i r = some τ) : WS τ := by
  obtain ⟨nk, hi, hr, hne, rfl⟩ := stF_some hs
  intro j mk s hj
  simp only [List.length_set]
  by_cases e : i = j
  · subst e
    rw [List.getElem?_set_self (List.getElem?_eq_some_iff.1 hi).1] at hj
    simp only [Option.some.injEq, Nd.mk.injEq] at hj
    rw [← hj.2]
    exact hr.rin
  · rw [List.getElem?_set_ne e] at hj
    exact h j mk s hj
theorem WS.bec {σ τ : St} {i : Nat} {r : TR} (h : WS σ) (hs : becF σ i r = some (.ok τ)) : WS τ := by
  simp only [becF, Option.bind_eq_some_iff] at hs
  obtain ⟨l, _, hs⟩ := hs
  split at hs
  · simp at hs
  · simp only [Option.bind_eq_some_iff, Option.some.injEq, Oc.ok.injEq] at hs
    obtain ⟨ρ, h1, rfl⟩ := hs
    exact h.set h1
theorem WS.eq : ∀ (n : Nat) {σ τ : St} {x y : TR}, WS σ → eqF n σ x y = some (.ok τ) → WS τ := by
  intro n
  induction n with
  | zero => intro σ τ x y _ h; simp [eqF] at h
  | succ n ih =>
    intro σ τ x y h hs
    simp only [eqF, Option.bind_eq_some_iff] at hs
    obtain ⟨x0, _, y0, _, hs⟩ := hs
    split at hs
    · simp only [Option.some.injEq, Oc.ok.injEq] at hs
      exact hs ▸ h
    · split at hs
      · exact h.bec hs
      · split at hs
        · exact h.bec hs
        · simp only [Option.bind_eq_some_iff] at hs
          obtain ⟨o, ho, hs⟩ := hs
          cases o with
          | er j => simp at hs
          | ok σ1 =>
            have hw : WS σ1 := by
              simp only [belF] at ho
              split at ho
              · simp only [Option.bind_eq_some_iff] at ho
                obtain ⟨os, _, ks, _, ho⟩ := ho
                split at ho
                · exact ih h ho
                · simp only [Option.bind_eq_some_iff] at ho
                  obtain ⟨o, h1, ho⟩ := ho
                  cases o with
                  | er j => simp at ho
                  | ok σ2 => exact ih (ih h h1) ho
                · simp at ho
              · simp at ho
            cases x0 with
            | int => simp at hs
            | bool => simp at hs
            | nd k i =>
              simp only [Option.bind_eq_some_iff, Option.some.injEq, Oc.ok.injEq] at hs
              obtain ⟨ρ, h1, rfl⟩ := hs
              exact hw.set h1
theorem WS.mark {σ : St} (h : WS σ) (r : TR) : WS (markF σ r) := by
  unfold markF
  split
  · split
    · rename_i i _ nm g hi
      intro j mk s hj
      simp only [List.length_set]
      by_cases e : i = j
      · subst e
        rw [List.getElem?_set_self (List.getElem?_eq_some_iff.1 hi).1] at hj
        simp at hj
      · rw [List.getElem?_set_ne e] at hj
        exact h j mk s hj
    · exact h
  · exact h
theorem WS.gen : ∀ (n : Nat) {σ τ : St} {r : TR} {bd : List TR}, WS σ → genF n σ r bd = some τ → WS τ := by
  intro n
  induction n with
  | zero => intro σ τ r bd _ h; simp [genF] at h
  | succ n ih =>
    intro σ τ r bd h hs
    simp only [genF, Option.bind_eq_some_iff] at hs
    obtain ⟨r0, _, hs⟩ := hs
    split at hs
    · simp only [Option.some.injEq] at hs
      exact hs ▸ h
    · split at hs
      · simp only [Option.some.injEq] at hs
        exact hs ▸ h.mark _
      · simp only [Option.bind_eq_some_iff] at hs
        obtain ⟨ks, _, hs⟩ := hs
        split at hs
        · simp only [Option.some.injEq] at hs
          exact hs ▸ h
        · exact ih h hs
        · simp only [Option.bind_eq_some_iff] at hs
          obtain ⟨σ1, h1, hs⟩ := hs
          exact ih (ih h h1) hs
        · simp at hs
theorem WS.add {σ : St} (h : WS σ) (nk : NK) : WS (σ ++ [⟨nk, none⟩]) := by
  intro j mk s hj
  by_cases e : j < σ.length
  · rw [List.getElem?_append_left e] at hj
    exact (h j mk s hj).up (by simp)
  · have e2 : j = σ.length := by
      have := (List.getElem?_eq_some_iff.1 hj).1
      simp at this
      omega
    subst e2
    simp at hj
theorem get_last {σ : St} {x y : Nd} {j : Nat} (hj : (σ ++ [x])[j]? = some y) : (j < σ.length ∧ σ[j]? = some y) ∨ (j = σ.length ∧ x = y) := by
  by_cases e : j < σ.length
  · rw [List.getElem?_append_left e] at hj
    exact .inl ⟨e, hj⟩
  · have e2 : j = σ.length := by
      have := (List.getElem?_eq_some_iff.1 hj).1
      simp at this
      omega
    subst e2
    simp at hj
    exact .inr ⟨rfl, hj⟩
theorem rp_less {σ : St} {x : NK} (h : WS σ) {a b : TR} (hr : Rp (σ ++ [⟨x, none⟩]) a b) : RIn σ.length a → Rp σ a b := by
  induction hr with
  | int => intro _; exact .int
  | bool => intro _; exact .bool
  | root j mk hj =>
    intro hin
    rcases get_last hj with ⟨_, q⟩ | ⟨q, _⟩
    · exact .root j mk q
    · have : j < σ.length := hin
      omega
  | step j mk r r0 hj _ ih =>
    intro hin
    rcases get_last hj with ⟨_, q⟩ | ⟨_, q⟩
    · exact .step j mk r r0 q (ih (h j mk r q))
    · simp at q
theorem Ev.add {σ τ : St} (h : Ev σ τ) (hw : WS σ) (x : NK) : Ev (σ ++ [⟨x, none⟩]) (τ ++ [⟨x, none⟩]) := by
  refine ⟨by simp [h.len], ?_, ?_⟩
  · intro j mk s hj
    rcases get_last hj with ⟨l, q⟩ | ⟨l, q⟩
    · obtain ⟨s', h1, h2⟩ := h.kk j mk s q
      exact ⟨s', get_snoc h1, h2⟩
    · simp only [Nd.mk.injEq] at q
      obtain ⟨rfl, rfl⟩ := q
      subst l
      exact ⟨none, by rw [← h.len]; simp, rfl⟩
  · intro a b hab
    by_cases hin : RIn σ.length a
    · exact (h.rp _ _ (rp_less hw hab hin)).up _
    · cases a with
      | int => exact absurd trivial hin
      | bool => exact absurd trivial hin
      | nd k j =>
        generalize hx : TR.nd k j = z at hab
        cases hab with
        | int => cases hx
        | bool => cases hx
        | root i mk hi =>
          simp only [TR.nd.injEq] at hx
          obtain ⟨rfl, rfl⟩ := hx
          rcases get_last hi with ⟨l, _⟩ | ⟨l, q⟩
          · exact absurd l hin
          · simp only [Nd.mk.injEq, and_true] at q
            subst q
            subst l
            exact .root _ x (by rw [← h.len]; simp)
        | step i mk r r0 hi _ =>
          simp only [TR.nd.injEq] at hx
          obtain ⟨rfl, rfl⟩ := hx
          rcases get_last hi with ⟨l, _⟩ | ⟨_, q⟩
          · exact absurd l hin
          · simp at q
end Go.Proofs.YtleenphlgbklmabGreatDoor

namespace Go.Proofs.YtleenphlgbklmabGreatDoor
open Go.RowKit
theorem VM.vblk {w : World} {mb : Nat} {names : List ByteArray} {vb : List Nat} (h : VM w mb names vb) : ∀ c, c ∈ vb → VBlk w c := by
  intro c hc
  obtain ⟨j, hj, rfl⟩ := List.getElem_of_mem hc
  have := h.vr j (h.len ▸ hj)
  have e : vb.getD j 0 = vb[j] := by simp [List.getD, hj]
  rw [e] at this
  exact ⟨_, this⟩
/-- the variables' blocks, with their names. -/
def NB (w : World) (vb : List Nat) (names : List ByteArray) : Prop := vb.length = names.length ∧ ∀ j, j < names.length → w.heap[vb.getD j 0]? = some (.cells #[.nilIface, .string (names.getD j { data := #[] }), .bool false] 148 (0, 0))
theorem VM.nodup {w : World} {mb : Nat} {names : List ByteArray} {vb : List Nat} (h : VM w mb names vb) (hn : names.Nodup) : vb.Nodup := by
  refine List.pairwise_iff_getElem.2 ?_
  intro i j hi hj hij e
  have h1 := h.vr i (h.len ▸ hi)
  have h2 := h.vr j (h.len ▸ hj)
  have e1 : vb.getD i 0 = vb[i] := by simp [List.getD, hi]
  have e2 : vb.getD j 0 = vb[j] := by simp [List.getD, hj]
  rw [e1, e] at h1
  have hi' : i < names.length := h.len ▸ hi
  have hj' : j < names.length := h.len ▸ hj
  have g1 : names.getD i { data := #[] } = names[i] := by simp [List.getD, hi']
  have g2 : names.getD j { data := #[] } = names[j] := by simp [List.getD, hj']
  rw [e2] at h2
  rw [h2, g1, g2] at h1
  simp at h1
  exact (List.pairwise_iff_getElem.1 hn) i j hi' hj' hij h1.symm
end Go.Proofs.YtleenphlgbklmabGreatDoor

namespace Go.Proofs.YtleenphlgbklmabGreatDoor
open Go.RowKit

/-- the variables of a type that was read. -/
def vrs (names : List ByteArray) : St := names.map fun n => ⟨.vr n false, none⟩
/-- a type that was read, as nodes behind those of the store: what it is, and the nodes. -/
def addT (vs : Nat) : Ty → St → TR × St
  | .mk kd n kids, σ =>
    if kd.data.toList == [] then (.nd .vr (vs + n), σ)
    else if kd.data.toList == ({ data := #[105, 110, 116] } : ByteArray).data.toList then (.int, σ)
    else if kd.data.toList == ({ data := #[98, 111, 111, 108] } : ByteArray).data.toList then (.bool, σ)
    else match kids with
      | [a] =>
        let p := addT vs a σ
        (.nd .ls p.2.length, p.2 ++ [⟨.ls p.1, none⟩])
      | [a, c] =>
        let p := addT vs a σ
        let q := addT vs c p.2
        if kd.data.toList == ({ data := #[112, 97, 105, 114] } : ByteArray).data.toList then (.nd .pr q.2.length, q.2 ++ [⟨.pr p.1 q.1, none⟩]) else (.nd .ar q.2.length, q.2 ++ [⟨.ar p.1 q.1, none⟩])
      | _ => (.int, σ)
theorem addT_var (vs n : Nat) (σ : St) : addT vs (.mk { data := #[] } n []) σ = (.nd .vr (vs + n), σ) := by simp [addT]
theorem addT_int (vs : Nat) (σ : St) : addT vs (.mk { data := #[105, 110, 116] } 0 []) σ = (.int, σ) := by simp [addT]
theorem addT_bool (vs : Nat) (σ : St) : addT vs (.mk { data := #[98, 111, 111, 108] } 0 []) σ = (.bool, σ) := by simp [addT]
theorem addT_list (vs : Nat) (a : Ty) (σ : St) : addT vs (.mk { data := #[108, 105, 115, 116] } 0 [a]) σ = (.nd .ls (addT vs a σ).2.length, (addT vs a σ).2 ++ [⟨.ls (addT vs a σ).1, none⟩]) := by rw [addT]; simp
theorem addT_pair (vs : Nat) (a c : Ty) (σ : St) : addT vs (.mk { data := #[112, 97, 105, 114] } 0 [a, c]) σ = (.nd .pr (addT vs c (addT vs a σ).2).2.length, (addT vs c (addT vs a σ).2).2 ++ [⟨.pr (addT vs a σ).1 (addT vs c (addT vs a σ).2).1, none⟩]) := by rw [addT]; simp
theorem addT_fn (vs : Nat) (a c : Ty) (σ : St) : addT vs (.mk { data := #[102, 117, 110] } 0 [a, c]) σ = (.nd .ar (addT vs c (addT vs a σ).2).2.length, (addT vs c (addT vs a σ).2).2 ++ [⟨.ar (addT vs a σ).1 (addT vs c (addT vs a σ).2).1, none⟩]) := by rw [addT]; simp
/-- a node more, at a new block. -/
theorem SW.add {w : World} {ad : List Nat} {τ : St} (h : SW w ad τ) {b : Nat} (hb : ¬ b ∈ ad) {nk : NK} {o : Obj} (ho : w.heap[b]? = some o) (hn : NBk ad nk .nilIface o) : SW w (ad ++ [b]) (τ ++ [⟨nk, none⟩]) := by
  refine ⟨by simp [h.len], ?_, ?_⟩
  · refine List.nodup_append.2 ⟨h.inj, by simp, ?_⟩
    intro x hx y hy e
    simp at hy
    subst hy
    subst e
    exact hb hx
  · intro i mk s c hi hc
    by_cases e : i < τ.length
    · rw [List.getElem?_append_left e] at hi
      rw [List.getElem?_append_left (by rw [h.len]; exact e)] at hc
      obtain ⟨sv, o', h1, h2, h3⟩ := h.blk i mk s c hi hc
      exact ⟨sv, o', h1, h2.up _, h3.up _⟩
    · have e2 : i = τ.length := by
        have := (List.getElem?_eq_some_iff.1 hi).1
        simp at this
        omega
      subst e2
      rw [← h.len] at hc
      simp at hi hc
      obtain ⟨rfl, rfl⟩ := hi
      subst hc
      exact ⟨.nilIface, o, ho, rfl, hn.up _⟩
theorem SW.vars {w : World} (names : List ByteArray) : ∀ {ad : List Nat} {τ : St} {vb : List Nat}, SW w ad τ → vb.length = names.length → (∀ j, j < names.length → w.heap[vb.getD j 0]? = some (.cells #[.nilIface, .string (names.getD j { data := #[] }), .bool false] 148 (0, 0))) → vb.Nodup → (∀ c, c ∈ vb → ¬ c ∈ ad) → SW w (ad ++ vb) (τ ++ vrs names) := by
  induction names with
  | nil =>
    intro ad τ vb h hl _ _ _
    have : vb = [] := List.eq_nil_of_length_eq_zero (by simpa using hl)
    subst this
    simpa [vrs] using h
  | cons n names ih =>
    intro ad τ vb h hl hv hd hn
    cases vb with
    | nil => simp at hl
    | cons b vb =>
      have h0 := hv 0 (by simp)
      have h1 := h.add (hn b (by simp)) (nk := .vr n false) h0 rfl
      have := ih (vb := vb) h1 (by simpa using hl) (fun j hj => by
        have := hv (j + 1) (by simp; omega)
        simpa using this) (List.nodup_cons.1 hd).2 (fun c hc z => by
        simp at z
        rcases z with z | z
        · exact hn c (by simp [hc]) z
        · subst z
          exact (List.nodup_cons.1 hd).1 hc)
      simpa [vrs, List.append_assoc] using this
/-- a type that was read joins the store. -/
theorem SW.adopt {w : World} {vb : List Nat} {lo hi : Nat} {t : Ty} {v : Value} (h : PTyR w vb lo hi t v) : ∀ (vs : Nat) (ad : List Nat) (τ : St), SW w ad τ → (∀ n b, vb[n]? = some b → ad[vs + n]? = some b) → (∀ c, c ∈ ad → (∃ cs f, w.heap[c]? = some (.cells cs 148 f)) ∨ c < lo) →
    ∃ bl, SW w (ad ++ bl) (addT vs t τ).2 ∧ RV (ad ++ bl) (addT vs t τ).1 v ∧ (∀ c, c ∈ bl → lo ≤ c ∧ c < hi) := by
  induction h with
  | var n b lo hi h1 hb =>
    intro vs ad τ hs hv hlo
    rw [addT_var]
    exact ⟨[], by simpa using hs, ⟨b, by simpa using hv n b hb, rfl⟩, by simp⟩
  | base kd lo hi h1 hk =>
    intro vs ad τ hs hv hlo
    rcases hk with rfl | rfl
    · rw [addT_int]
      exact ⟨[], by simpa using hs, rfl, by simp⟩
    · rw [addT_bool]
      exact ⟨[], by simpa using hs, rfl, by simp⟩
  | list a b p lo m hi hb ha h1 h2 ih =>
    intro vs ad τ hs hv hlo
    obtain ⟨bl, s1, r1, q1⟩ := ih vs ad τ hs hv hlo
    have hm := ha.le
    rw [addT_list]
    have hnb : ¬ b ∈ ad ++ bl := fun z => by
      simp at z
      rcases z with z | z
      · rcases hlo b z with ⟨cs, f, e⟩ | e
        · rw [hb] at e
          simp at e
        · omega
      · have := q1 b z
        omega
    refine ⟨bl ++ [b], ?_, ?_, ?_⟩
    · rw [← List.append_assoc]
      exact s1.add hnb hb ⟨p, r1, rfl⟩
    · refine ⟨b, ?_, rfl⟩
      rw [← List.append_assoc, ← s1.len]
      simp
    · intro c hc
      simp at hc
      rcases hc with hc | rfl
      · have := q1 c hc
        omega
      · omega
  | pair a c b p q lo m k hi hb ha hc h1 h2 ih ih2 =>
    intro vs ad τ hs hv hlo
    obtain ⟨bl, s1, r1, q1⟩ := ih vs ad τ hs hv hlo
    have hm := ha.le
    have hmk := hc.le
    obtain ⟨bl2, s2, r2, q2⟩ := ih2 vs (ad ++ bl) _ s1 (fun n b hb => by rw [List.getElem?_append_left (List.getElem?_eq_some_iff.1 (hv n b hb)).1]; exact hv n b hb) (fun x hx => by
      simp at hx
      rcases hx with hx | hx
      · rcases hlo x hx with e | e
        · exact .inl e
        · exact .inr (by omega)
      · exact .inr (q1 x hx).2)
    rw [addT_pair]
    have hnb : ¬ b ∈ ad ++ bl ++ bl2 := fun z => by
      simp at z
      rcases z with z | z | z
      · rcases hlo b z with ⟨cs, f, e⟩ | e
        · rw [hb] at e
          simp at e
        · omega
      · have := q1 b z
        omega
      · have := q2 b z
        omega
    refine ⟨bl ++ bl2 ++ [b], ?_, ?_, ?_⟩
    · have := s2.add hnb hb (nk := .pr (addT vs a τ).1 (addT vs c (addT vs a τ).2).1) ⟨p, q, r1.up _, r2, rfl⟩
      simpa [List.append_assoc] using this
    · refine ⟨b, ?_, rfl⟩
      rw [← s2.len]
      simp [List.append_assoc]
    · intro x hx
      simp at hx
      rcases hx with hx | hx | rfl
      · have := q1 x hx
        omega
      · have := q2 x hx
        omega
      · omega
  | fn a c b p q lo m k hi hb ha hc h1 h2 ih ih2 =>
    intro vs ad τ hs hv hlo
    obtain ⟨bl, s1, r1, q1⟩ := ih vs ad τ hs hv hlo
    have hm := ha.le
    have hmk := hc.le
    obtain ⟨bl2, s2, r2, q2⟩ := ih2 vs (ad ++ bl) _ s1 (fun n b hb => by rw [List.getElem?_append_left (List.getElem?_eq_some_iff.1 (hv n b hb)).1]; exact hv n b hb) (fun x hx => by
      simp at hx
      rcases hx with hx | hx
      · rcases hlo x hx with e | e
        · exact .inl e
        · exact .inr (by omega)
      · exact .inr (q1 x hx).2)
    rw [addT_fn]
    have hnb : ¬ b ∈ ad ++ bl ++ bl2 := fun z => by
      simp at z
      rcases z with z | z | z
      · rcases hlo b z with ⟨cs, f, e⟩ | e
        · rw [hb] at e
          simp at e
        · omega
      · have := q1 b z
        omega
      · have := q2 b z
        omega
    refine ⟨bl ++ bl2 ++ [b], ?_, ?_, ?_⟩
    · have := s2.add hnb hb (nk := .ar (addT vs a τ).1 (addT vs c (addT vs a τ).2).1) ⟨p, q, r1.up _, r2, rfl⟩
      simpa [List.append_assoc] using this
    · refine ⟨b, ?_, rfl⟩
      rw [← s2.len]
      simp [List.append_assoc]
    · intro x hx
      simp at hx
      rcases hx with hx | hx | rfl
      · have := q1 x hx
        omega
      · have := q2 x hx
        omega
      · omega
theorem st_up {σ : St} {i : Nat} {x : Nd} (h : σ[i]? = some x) (u : St) : (σ ++ u)[i]? = some x := by
  rw [List.getElem?_append_left (List.getElem?_eq_some_iff.1 h).1]
  exact h
end Go.Proofs.YtleenphlgbklmabGreatDoor
