import Derived.Test.YtleenphlgbklmabGreatDoorWPTyS
import Derived.Deep.RegionHeld3
import Derived.Test.YtleenphlgbklmabGreatDoorWPTyB
import Derived.Deep.LoopGhost
set_option linter.unusedVariables false
set_option linter.unusedSimpArgs false
namespace Go.Proofs.YtleenphlgbklmabGreatDoor
open Go.RowKit

theorem SX.add {w : World} {ad : List Nat} {σ : St} (hs : SX w ad σ) (hw : WS σ) {b : Nat} (hb : ¬ b ∈ ad) {nk : NK} {o : Obj} (ho : w.heap[b]? = some o) (hn : NBk ad nk .nilIface o) : SX w (ad ++ [b]) (σ ++ [⟨nk, none⟩]) := by
  obtain ⟨τ, h1, h2⟩ := hs
  exact ⟨_, h1.add hb ho hn, h2.add hw nk⟩
theorem SX.lt {w : World} {ad : List Nat} {σ : St} (hs : SX w ad σ) {b : Nat} (hb : b ∈ ad) : b < w.heap.size := by
  obtain ⟨τ, h1, _⟩ := hs
  obtain ⟨o, ho, _⟩ := h1.tb hb
  exact lt_of_block ho
theorem RV.last {ad : List Nat} {σ : St} {b : Nat} (h : ad.length = σ.length) (k : Kd) : RV (ad ++ [b]) (.nd k σ.length) (.iface k.tp (.pointer (some ⟨b, 0, none⟩))) := ⟨b, by rw [← h]; simp, rfl⟩
/-- what a call that makes types leaves. -/
structure Gw (S : Nat → Prop) (ad ad' : List Nat) (w w' : World) : Prop where
  up : ∃ u, ad' = ad ++ u ∧ ∀ q, q ∈ u → w.heap.size ≤ q
  kt : Kt ad S w w'
theorem Gw.of {S : Nat → Prop} {ad : List Nat} {w w' : World} (k : Kt ad S w w') : Gw S ad ad w w' := ⟨⟨[], by simp, by simp⟩, k⟩
theorem Gw.trans {S : Nat → Prop} {a b c : List Nat} {w1 w2 w3 : World} (h : Gw S a b w1 w2) (g : Gw S b c w2 w3) : Gw S a c w1 w3 := by
  obtain ⟨⟨u, rfl, hu⟩, k⟩ := h
  obtain ⟨⟨u2, rfl, hu2⟩, k2⟩ := g
  refine ⟨⟨u ++ u2, by simp, ?_⟩, k.then k2 ?_⟩
  · intro q hq
    simp at hq
    rcases hq with hq | hq
    · exact hu q hq
    · exact Nat.le_trans k.size (hu2 q hq)
  · intro q hq
    simp at hq
    rcases hq with hq | hq
    · exact .inl hq
    · exact .inr (hu q hq)
theorem Gw.rv {S : Nat → Prop} {a b : List Nat} {w1 w2 : World} (h : Gw S a b w1 w2) {r : TR} {v : Value} (hv : RV a r v) : RV b r v := by
  obtain ⟨⟨u, rfl, hu⟩, _⟩ := h
  exact hv.up u
theorem Gw.snoc {S : Nat → Prop} {ad : List Nat} {w w' : World} {b : Nat} (k : Kt ad S w w') (hb : w.heap.size ≤ b) : Gw S ad (ad ++ [b]) w w' := ⟨⟨[b], rfl, by intro q hq; simp at hq; omega⟩, k⟩
/-- a new variable. -/
theorem SX.newv {w : World} {ad : List Nat} {σ : St} (hs : SX w ad σ) (hw : WS σ) (g : Bool) : SX (w.alloc (.cells #[.nilIface, .string { data := #[] }, .bool g] 148)) (ad ++ [w.heap.size]) (σ ++ [⟨.vr { data := #[] } g, none⟩]) :=
  (hs.kept (Kept.alloc _ _)).add hw (fun z => by have := hs.lt z; omega) (heap_alloc_new _ _) rfl
theorem SX.vcell {w : World} {ad : List Nat} {σ : St} (hs : SX w ad σ) {i b : Nat} {nm : ByteArray} {g : Bool} (hi : σ[i]? = some ⟨.vr nm g, none⟩) (hb : ad[i]? = some b) : w.cell? ⟨b, 2, none⟩ = some (.bool g) := by
  obtain ⟨o, ho, hn⟩ := hs.blk hi hb
  rw [show o = _ from hn] at ho
  simp [World.cell?, ho]
def FvO (w : World) (mb : Nat) (ad : List Nat) (σ' : St) (r' : TR) (m' : List (Nat × Nat)) (e : Ending) (w' : World) : Prop := ∃ c ad', e = .returned (.pointer (some ⟨c, 0, none⟩)) ∧ RV ad' r' (.iface 124 (.pointer (some ⟨c, 0, none⟩))) ∧ SX w' ad' σ' ∧ WS σ' ∧ VV w' mb ad' σ' m' ∧ Gw (fun q => q = mb) ad ad' w w'
set_option maxRecDepth 20000 in
set_option maxHeartbeats 2000000 in
theorem fvar_old {w : World} {mb : Nat} {ad : List Nat} {σ : St} {m : List (Nat × Nat)} {i b : Nat} {nm : ByteArray} (hi : σ[i]? = some ⟨.vr nm false, none⟩) (hb : ad[i]? = some b) (hs : SX w ad σ) (hw : WS σ) (hm : VV w mb ad σ m) : Calls Tryz.prog 177 #[.map (some mb), .pointer (some ⟨b, 0, none⟩)] w (FvO w mb ad σ (.nd .vr i) m) := by
  have hc := hs.vcell hi hb
  have HF : Hid (FvO w mb ad σ (.nd .vr i) m (.returned (.pointer (some ⟨b, 0, none⟩))) w) := ⟨b, ad, rfl, ⟨b, hb, rfl⟩, hs, hw, hm, Gw.of (Kt.refl _ _ _)⟩
  clear hs hw hm hi hb
  go_enter Tryz.func177, Tryz.ntmps177
  go_wp2
  go_ret
  exact HF.out
set_option maxRecDepth 20000 in
set_option maxHeartbeats 2000000 in
theorem fvar_hit {w : World} {mb : Nat} {ad : List Nat} {σ : St} {m : List (Nat × Nat)} {i b j : Nat} {nm : ByteArray} (hi : σ[i]? = some ⟨.vr nm true, none⟩) (hb : ad[i]? = some b) (hj : lookF i m = some j) (hs : SX w ad σ) (hw : WS σ) (hm : VV w mb ad σ m) : Calls Tryz.prog 177 #[.map (some mb), .pointer (some ⟨b, 0, none⟩)] w (FvO w mb ad σ (.nd .vr j) m) := by
  have hc := hs.vcell hi hb
  obtain ⟨c, hcj, hl, _⟩ := (look_vv hm hs hi rfl hb 313 Tryz.underlying313).1 j hj
  have HF : Hid (FvO w mb ad σ (.nd .vr j) m (.returned (.pointer (some ⟨c, 0, none⟩))) w) := ⟨c, ad, rfl, ⟨c, hcj, rfl⟩, hs, hw, hm, Gw.of (Kt.refl _ _ _)⟩
  clear hs hw hm hi hb hj hcj
  go_enter Tryz.func177, Tryz.ntmps177
  go_wp2
  go_ret
  exact HF.out
set_option maxRecDepth 20000 in
set_option maxHeartbeats 2000000 in
theorem fvar_new {w : World} {mb : Nat} {ad : List Nat} {σ : St} {m : List (Nat × Nat)} {i b : Nat} {nm : ByteArray} (hi : σ[i]? = some ⟨.vr nm true, none⟩) (hb : ad[i]? = some b) (hj : lookF i m = none) (hs : SX w ad σ) (hw : WS σ) (hm : VV w mb ad σ m) : Calls Tryz.prog 177 #[.map (some mb), .pointer (some ⟨b, 0, none⟩)] w (FvO w mb ad (σ ++ [newV]) (.nd .vr σ.length) (m ++ [(i, σ.length)])) := by
  have hc := hs.vcell hi hb
  obtain ⟨hl, _⟩ := (look_vv hm hs hi rfl hb 313 Tryz.underlying313).2 hj
  have hka : Kept w (w.alloc (.cells #[.nilIface, .string { data := #[] }, .bool false] 148)) := Kept.alloc _ _
  have hs1 := hs.newv hw false
  have hm1 := (hm.kt (Kt.of_kept (ad := ad) (S := fun _ => False) hka) id).up [w.heap.size] [newV]
  have hlast := RV.last (b := w.heap.size) hs.len .vr
  have hbu : (ad ++ [w.heap.size])[i]? = some b := by rw [List.getElem?_append_left (List.getElem?_eq_some_iff.1 hb).1]; exact hb
  obtain ⟨w2, hp, hs2, hm2, hk2⟩ := put_vv hm1 hs1 (i := i) (b := b) (j := σ.length) (c := w.heap.size) (nd := ⟨.vr nm true, none⟩) (get_snoc hi) rfl hbu (by rw [← hs.len]; simp) hj 313 Tryz.underlying313
  have HF : Hid (FvO w mb ad (σ ++ [newV]) (.nd .vr σ.length) (m ++ [(i, σ.length)]) (.returned (.pointer (some ⟨w.heap.size, 0, none⟩))) w2) := ⟨_, _, rfl, hlast, hs2, hw.add _, hm2, (Gw.snoc (Kt.of_kept hka) (Nat.le_refl _)).trans (Gw.of hk2)⟩
  clear hs hw hm hi hb hj hs1 hm1 hlast hbu hs2 hm2 hk2 hka
  go_enter Tryz.func177, Tryz.ntmps177
  go_wp2
  go_ret
  exact HF.out
end Go.Proofs.YtleenphlgbklmabGreatDoor

namespace Go.Proofs.YtleenphlgbklmabGreatDoor
open Go.RowKit

def InO (w : World) (mb : Nat) (ad : List Nat) (p : TR × St × List (Nat × Nat)) (e : Ending) (w' : World) : Prop := ∃ v' ad', e = .returned v' ∧ RV ad' p.1 v' ∧ SX w' ad' p.2.1 ∧ WS p.2.1 ∧ VV w' mb ad' p.2.1 p.2.2 ∧ Gw (fun q => q = mb) ad ad' w w'
def SIns (n : Nat) : Prop := ∀ (σ : St) (r : TR) (m : List (Nat × Nat)) (p : TR × St × List (Nat × Nat)), instF n σ r m = some p → ∀ (w : World) (ad : List Nat) (v : Value) (mb : Nat), SX w ad σ → WS σ → RV ad r v → VV w mb ad σ m →
  Calls Tryz.prog 163 #[.map (some mb), v] w (InO w mb ad p)
theorem Gw.pre {S : Nat → Prop} {ad ad' : List Nat} {w w1 w' : World} (k : Kt ad S w w1) (h : Gw S ad ad' w1 w') : Gw S ad ad' w w' := (Gw.of k).trans h
theorem instF_pre : ∀ (n : Nat) {σ : St} {r : TR} {m : List (Nat × Nat)} {p : TR × St × List (Nat × Nat)}, instF n σ r m = some p → ∃ u, p.2.1 = σ ++ u := by
  intro n
  induction n with
  | zero => intro σ r m p h; simp [instF] at h
  | succ n ih =>
    intro σ r m p h
    simp only [instF, Option.bind_eq_some_iff] at h
    obtain ⟨r0, _, h⟩ := h
    cases r0 with
    | int => simp only [Option.some.injEq] at h; exact ⟨[], by rw [← h]; simp⟩
    | bool => simp only [Option.some.injEq] at h; exact ⟨[], by rw [← h]; simp⟩
    | nd k i =>
      simp only at h
      split at h
      · simp only [Option.some.injEq] at h; exact ⟨[], by rw [← h]; simp⟩
      · split at h
        · simp only [Option.some.injEq] at h; exact ⟨[], by rw [← h]; simp⟩
        · simp only [Option.some.injEq] at h; exact ⟨[newV], by rw [← h]⟩
      · simp only [Option.bind_eq_some_iff, Option.some.injEq] at h
        obtain ⟨p1, h1, h⟩ := h
        obtain ⟨u, hu⟩ := ih h1
        exact ⟨u ++ [⟨.ls p1.1, none⟩], by rw [← h, hu]; simp⟩
      · simp only [Option.bind_eq_some_iff, Option.some.injEq] at h
        obtain ⟨p1, h1, p2, h2, h⟩ := h
        obtain ⟨u, hu⟩ := ih h1
        obtain ⟨u2, hu2⟩ := ih h2
        exact ⟨u ++ u2 ++ [⟨.pr p1.1 p2.1, none⟩], by rw [← h, hu2, hu]; simp⟩
      · simp only [Option.bind_eq_some_iff, Option.some.injEq] at h
        obtain ⟨p1, h1, p2, h2, h⟩ := h
        obtain ⟨u, hu⟩ := ih h1
        obtain ⟨u2, hu2⟩ := ih h2
        exact ⟨u ++ u2 ++ [⟨.ar p1.1 p2.1, none⟩], by rw [← h, hu2, hu]; simp⟩
      · simp at h
theorem two_cells {C : TR → TR → NK} {tT : TypeId} (hC : ∀ ad a c o, NBk ad (C a c) .nilIface o ↔ ∃ p q, RV ad a p ∧ RV ad c q ∧ o = .cells #[.nilIface, p, q] tT (0, 0)) {w : World} {ad : List Nat} {σ : St} {x y : TR} {vx vy : Value} {i b : Nat} (hs : SX w ad σ) (hi : σ[i]? = some ⟨C x y, none⟩) (hb : ad[i]? = some b) (hvx : RV ad x vx) (hvy : RV ad y vy) : w.cell? ⟨b, 1, none⟩ = some vx ∧ w.cell? ⟨b, 2, none⟩ = some vy := by
  obtain ⟨o, ho, hn⟩ := hs.blk hi hb
  obtain ⟨p, q, h1, h2, rfl⟩ := (hC _ _ _ _).1 hn
  rw [hvx.det h1, hvy.det h2]
  exact ⟨by simp [World.cell?, ho], by simp [World.cell?, ho]⟩
theorem ins_aux (n : Nat) (ih : SIns n) {C : TR → TR → NK} {k : Kd} {tT : TypeId} (hk : ∀ a c, (C a c).kd = k) (hC : ∀ ad a c o, NBk ad (C a c) .nilIface o ↔ ∃ p q, RV ad a p ∧ RV ad c q ∧ o = .cells #[.nilIface, p, q] tT (0, 0)) {σ : St} {x y : TR} {m : List (Nat × Nat)} {p1 p2 : TR × St × List (Nat × Nat)} (h1 : instF n σ x m = some p1) (h2 : instF n p1.2.1 y p1.2.2 = some p2) {w w1 : World} {ad : List Nat} {vx vy : Value} {mb : Nat} (hs : SX w1 ad σ) (hw : WS σ) (hm : VV w1 mb ad σ m) (hk1 : Kt ad (fun q => q = mb) w w1) (hvx : RV ad x vx) (hvy : RV ad y vy) {i b : Nat} (hi : σ[i]? = some ⟨C x y, none⟩) (hb : ad[i]? = some b) :
    Calls Tryz.prog 163 #[.map (some mb), vx] w1 fun e w2 => ∃ T2 u2, e = .returned (.iface T2 u2) ∧ w2.cell? ⟨b, 1, none⟩ = some vx ∧ w2.cell? ⟨b, 2, none⟩ = some vy ∧
      Hid (Calls Tryz.prog 163 #[.map (some mb), vy] w2 fun e w3 => ∃ T3 u3, e = .returned (.iface T3 u3) ∧ w3.cell? ⟨b, 1, none⟩ = some vx ∧ w3.cell? ⟨b, 2, none⟩ = some vy ∧
        Hid (InO w mb ad (.nd k p2.2.1.length, p2.2.1 ++ [⟨C p1.1 p2.1, none⟩], p2.2.2) (.returned (.iface k.tp (.pointer (some ⟨w3.heap.size, 0, none⟩)))) (w3.alloc (.cells #[.nilIface, .iface T2 u2, .iface T3 u3] tT)))) := by
  obtain ⟨u1, hu1⟩ := instF_pre n h1
  obtain ⟨u2, hu2⟩ := instF_pre n h2
  refine (ih σ x m p1 h1 w1 ad vx mb hs hw hvx hm).mono ?_
  rintro e w2 ⟨v2, ad2, rfl, hv2, hs2, hw2, hm2, hg2⟩
  obtain ⟨T2, z2, rfl⟩ := hv2.iface
  have hb2 : ad2[i]? = some b := by
    obtain ⟨⟨u, rfl, _⟩, _⟩ := hg2
    rw [List.getElem?_append_left (List.getElem?_eq_some_iff.1 hb).1]; exact hb
  have hi2 : p1.2.1[i]? = some ⟨C x y, none⟩ := by rw [hu1]; exact st_up hi u1
  obtain ⟨c1, c2⟩ := two_cells hC hs2 hi2 hb2 (hg2.rv hvx) (hg2.rv hvy)
  refine ⟨T2, z2, rfl, c1, c2, ?_⟩
  refine (ih p1.2.1 y p1.2.2 p2 h2 w2 ad2 vy mb hs2 hw2 (hg2.rv hvy) hm2).mono ?_
  rintro e w3 ⟨v3, ad3, rfl, hv3, hs3, hw3, hm3, hg3⟩
  obtain ⟨T3, z3, rfl⟩ := hv3.iface
  have hb3 : ad3[i]? = some b := by
    obtain ⟨⟨u, rfl, _⟩, _⟩ := hg3
    rw [List.getElem?_append_left (List.getElem?_eq_some_iff.1 hb2).1]; exact hb2
  have hi3 : p2.2.1[i]? = some ⟨C x y, none⟩ := by rw [hu2]; exact st_up hi2 u2
  obtain ⟨d1, d2⟩ := two_cells hC hs3 hi3 hb3 (hg3.rv (hg2.rv hvx)) (hg3.rv (hg2.rv hvy))
  refine ⟨T3, z3, rfl, d1, d2, ?_⟩
  have hka : Kept w3 (w3.alloc (.cells #[.nilIface, .iface T2 z2, .iface T3 z3] tT)) := Kept.alloc _ _
  exact ⟨_, ad3 ++ [w3.heap.size], rfl, RV.last hs3.len k, (hs3.kept hka).add hw3 (fun z => by have := hs3.lt z; omega) (heap_alloc_new _ _) ((hC _ _ _ _).2 ⟨_, _, hg3.rv hv2, hv3, rfl⟩), hw3.add _, (hm3.kt (Kt.of_kept (ad := ad) (S := fun _ => False) hka) id).up _ _, (Gw.pre hk1 hg2).trans (hg3.trans (Gw.snoc (Kt.of_kept hka) (Nat.le_refl _)))⟩
set_option maxRecDepth 20000 in
set_option maxHeartbeats 2000000 in
theorem ins_sx : ∀ n, SIns n := by
  intro n
  induction n with
  | zero => intro σ r m p h; simp [instF] at h
  | succ n ih =>
    intro σ r m p h w ad v mb hs hw hv hm
    simp only [instF, Option.bind_eq_some_iff] at h
    obtain ⟨r0, hr, h⟩ := h
    have hr := repF_rp _ hr
    have HK : Hid _ := known_se hr w v hs hv
    have HIH : Hid _ := ih
    have HR : Hid _ := hr.root_of
    have HM : Hid _ := hm
    have HW : Hid _ := hw
    have HH : Hid _ := h
    obtain ⟨T, u, rfl⟩ := hv.iface
    have HMO : Hid (∀ {w1 w2 : World}, Kt ad (fun _ => False) w1 w2 → Kt ad (fun q => q = mb) w1 w2) := fun k => k.mono (fun _ _ z => z.elim)
    clear hs hr hv ih hm hw h
    go_enter Tryz.func163, Tryz.ntmps163
    go_wp2_with fail
    refine Calls.mono HK.out ?_
    rintro e w1 ⟨v0, rfl, hv0, hs1, hk1⟩
    have HS1 : Hid _ := hs1
    have HK1 : Hid _ := HMO.out hk1
    have HM1 : Hid _ := VV.kt HM.out hk1 id
    clear HK hs1 hk1 HM HMO
    cases r0 with
    | int =>
      rw [show v0 = _ from hv0]
      have hh := HH.out
      simp only [Option.some.injEq] at hh
      have HF : Hid (InO w mb ad p (.returned (.iface 271 (.agg #[.string { data := #[105, 110, 116] }]))) w1) := by
        rw [← hh]
        exact ⟨_, ad, rfl, rfl, HS1.out, HW.out, HM1.out, Gw.of HK1.out⟩
      have q0 := Tryz.tbBV (.agg #[.string { data := #[105, 110, 116] }]) w1
      have q1 := Tryz.tbBL (.agg #[.string { data := #[105, 110, 116] }]) w1
      have q2 := Tryz.tbBP (.agg #[.string { data := #[105, 110, 116] }]) w1
      have q3 := Tryz.taBA (.agg #[.string { data := #[105, 110, 116] }]) w1
      clear hh hv0 HIH HR
      go_wp2
      go_ret
      exact HF.out
    | bool =>
      rw [show v0 = _ from hv0]
      have hh := HH.out
      simp only [Option.some.injEq] at hh
      have HF : Hid (InO w mb ad p (.returned (.iface 271 (.agg #[.string { data := #[98, 111, 111, 108] }]))) w1) := by
        rw [← hh]
        exact ⟨_, ad, rfl, rfl, HS1.out, HW.out, HM1.out, Gw.of HK1.out⟩
      have q0 := Tryz.tbBV (.agg #[.string { data := #[98, 111, 111, 108] }]) w1
      have q1 := Tryz.tbBL (.agg #[.string { data := #[98, 111, 111, 108] }]) w1
      have q2 := Tryz.tbBP (.agg #[.string { data := #[98, 111, 111, 108] }]) w1
      have q3 := Tryz.taBA (.agg #[.string { data := #[98, 111, 111, 108] }]) w1
      clear hh hv0 HIH HR
      go_wp2
      go_ret
      exact HF.out
    | nd k i =>
      obtain ⟨nk, rfl, hi⟩ := HR.out.rt
      obtain ⟨b, hb, rfl⟩ := hv0
      have hh := HH.out
      simp only [hi] at hh
      cases nk with
      | vr nm g =>
        have FIN : Hid (∀ (c : Nat) (r' : TR) (σ' : St) (m' : List (Nat × Nat)), p = (r', σ', m') → ∀ (e : Ending) (w' : World), FvO w1 mb ad σ' r' m' e w' → ∃ c, e = .returned (.pointer (some ⟨c, 0, none⟩)) ∧ InO w mb ad p (.returned (.iface 124 (.pointer (some ⟨c, 0, none⟩)))) w') := by
          rintro _ r' σ' m' rfl e w' ⟨c, ad', e1, e2, e3, e4, e5, e6⟩
          exact ⟨c, e1, _, ad', rfl, e2, e3, e4, e5, Gw.pre HK1.out e6⟩
        have HC : Hid (Calls Tryz.prog 177 #[.map (some mb), .pointer (some ⟨b, 0, none⟩)] w1 fun e w' => ∃ c, e = .returned (.pointer (some ⟨c, 0, none⟩)) ∧ InO w mb ad p (.returned (.iface 124 (.pointer (some ⟨c, 0, none⟩)))) w') := by
          cases g with
          | false =>
            simp only [Option.some.injEq] at hh
            exact (fvar_old hi hb HS1.out HW.out HM1.out).mono (fun e w' h => FIN.out 0 _ _ _ hh.symm e w' h)
          | true =>
            simp only at hh
            split at hh
            · rename_i j hj
              simp only [Option.some.injEq] at hh
              exact (fvar_hit hi hb hj HS1.out HW.out HM1.out).mono (fun e w' h => FIN.out 0 _ _ _ hh.symm e w' h)
            · rename_i hj
              simp only [Option.some.injEq] at hh
              exact (fvar_new hi hb hj HS1.out HW.out HM1.out).mono (fun e w' h => FIN.out 0 _ _ _ hh.symm e w' h)
        have q0 := Tryz.taVV (.pointer (some ⟨b, 0, none⟩)) w1
        simp only [NK.kd, Kd.tp]
        clear hh FIN HIH HR hi hb HH
        go_wp2_with fail
        refine Calls.mono HC.out ?_
        rintro e w2 ⟨c, rfl, hF⟩
        have HF : Hid _ := hF
        clear hF HC
        go_wp2
        go_ret
        exact HF.out
      | ls x =>
        simp only [Option.bind_eq_some_iff, Option.some.injEq] at hh
        obtain ⟨p1, h1, hp⟩ := hh
        obtain ⟨o, ho, hn⟩ := SX.blk HS1.out hi hb
        obtain ⟨vx, hvx, rfl⟩ := hn
        have c1 : w1.cell? ⟨b, 1, none⟩ = some vx := by simp [World.cell?, ho]
        obtain ⟨Tx, ux, rfl⟩ := hvx.iface
        have q0 := Tryz.taLV (.pointer (some ⟨b, 0, none⟩)) w1
        have q1 := Tryz.taLL (.pointer (some ⟨b, 0, none⟩)) w1
        have HC : Hid _ := HIH.out σ x m p1 h1 w1 ad _ mb HS1.out HW.out hvx HM1.out
        have HP : Hid _ := hp
        simp only [NK.kd, Kd.tp]
        clear hi hb ho hvx h1 hp HIH HR HH
        go_wp2_with fail
        refine Calls.mono HC.out ?_
        rintro e w2 ⟨v2, ad2, rfl, hv2, hs2, hw2, hm2, hg2⟩
        obtain ⟨T2, u2, rfl⟩ := hv2.iface
        have HF : Hid (InO w mb ad p (.returned (.iface 149 (.pointer (some ⟨w2.heap.size, 0, none⟩)))) (w2.alloc (.cells #[.nilIface, .iface T2 u2] 152))) := by
          rw [← HP.out]
          have hka : Kept w2 (w2.alloc (.cells #[.nilIface, .iface T2 u2] 152)) := Kept.alloc _ _
          exact ⟨_, ad2 ++ [w2.heap.size], rfl, RV.last hs2.len .ls, (hs2.kept hka).add hw2 (fun z => by have := hs2.lt z; omega) (heap_alloc_new _ _) ⟨_, hv2, rfl⟩, hw2.add _, (hm2.kt (Kt.of_kept (ad := ad) (S := fun _ => False) hka) id).up _ _, (Gw.pre HK1.out hg2).trans (Gw.snoc (Kt.of_kept hka) (Nat.le_refl _))⟩
        clear hv2 hs2 hw2 hm2 hg2 HC
        go_wp2
        go_ret
        exact HF.out
      | pr x y =>
        simp only [Option.bind_eq_some_iff, Option.some.injEq] at hh
        obtain ⟨p1, h1, p2, h2, hp⟩ := hh
        obtain ⟨o, ho, hn⟩ := SX.blk HS1.out hi hb
        obtain ⟨vx, vy, hvx, hvy, rfl⟩ := hn
        have hkd : Kept w1 w1.drew := Kept.drew w1
        have ho' := hkd.blk ho
        have c1 : w1.drew.cell? ⟨b, 1, none⟩ = some vx := by simp [World.cell?, ho']
        have c2 : w1.drew.cell? ⟨b, 2, none⟩ = some vy := by simp [World.cell?, ho']
        obtain ⟨Tx, ux, rfl⟩ := hvx.iface
        obtain ⟨Ty, uy, rfl⟩ := hvy.iface
        have HC : Hid _ := ins_aux n HIH.out (C := .pr) (k := .pr) (tT := 156) (fun _ _ => rfl) (fun _ _ _ _ => Iff.rfl) h1 h2 (w := w) (SX.kept HS1.out hkd) HW.out (VV.kt HM1.out (Kt.of_kept (ad := ad) (S := fun _ => False) hkd) id) (HK1.out.trans (Kt.of_kept hkd)) hvx hvy hi hb
        have HP : Hid _ := hp
        have q0 := Tryz.taPV (.pointer (some ⟨b, 0, none⟩)) w1
        have q1 := Tryz.taPL (.pointer (some ⟨b, 0, none⟩)) w1
        have q2 := Tryz.taPP (.pointer (some ⟨b, 0, none⟩)) w1
        simp only [NK.kd, Kd.tp]
        clear hi hb ho hvx hvy h1 h2 hp HR HH ho' hkd HIH
        go_wp2_with fail
        go_region_held3 (fun w' => w'.cell? ⟨b, 1, none⟩ = some (.iface Tx ux) ∧ w'.cell? ⟨b, 2, none⟩ = some (.iface Ty uy)) (go_keep) (first | (go_at_call 163; refine Calls.mono HC.out ?_; rintro e w2 ⟨T2, u2, rfl, j1, j2, HD⟩; clear HC) | (go_at_call 163; refine Calls.mono HD.out ?_; rintro e w3 ⟨T3, u3, rfl, k1, k2, HF⟩; clear HD))
        all_goals
          go_wp2
          go_ret
          have hp := HP.out
          rw [← hp]
          exact HF.out
      | ar x y =>
        simp only [Option.bind_eq_some_iff, Option.some.injEq] at hh
        obtain ⟨p1, h1, p2, h2, hp⟩ := hh
        obtain ⟨o, ho, hn⟩ := SX.blk HS1.out hi hb
        obtain ⟨vx, vy, hvx, hvy, rfl⟩ := hn
        have hkd : Kept w1 w1.drew := Kept.drew w1
        have ho' := hkd.blk ho
        have c1 : w1.drew.cell? ⟨b, 1, none⟩ = some vx := by simp [World.cell?, ho']
        have c2 : w1.drew.cell? ⟨b, 2, none⟩ = some vy := by simp [World.cell?, ho']
        obtain ⟨Tx, ux, rfl⟩ := hvx.iface
        obtain ⟨Ty, uy, rfl⟩ := hvy.iface
        have HC : Hid _ := ins_aux n HIH.out (C := .ar) (k := .ar) (tT := 160) (fun _ _ => rfl) (fun _ _ _ _ => Iff.rfl) h1 h2 (w := w) (SX.kept HS1.out hkd) HW.out (VV.kt HM1.out (Kt.of_kept (ad := ad) (S := fun _ => False) hkd) id) (HK1.out.trans (Kt.of_kept hkd)) hvx hvy hi hb
        have HP : Hid _ := hp
        have q0 := Tryz.taAV (.pointer (some ⟨b, 0, none⟩)) w1
        have q1 := Tryz.taAL (.pointer (some ⟨b, 0, none⟩)) w1
        have q2 := Tryz.taAP (.pointer (some ⟨b, 0, none⟩)) w1
        have q3 := Tryz.taAA (.pointer (some ⟨b, 0, none⟩)) w1
        simp only [NK.kd, Kd.tp]
        clear hi hb ho hvx hvy h1 h2 hp HR HH ho' hkd HIH
        go_wp2_with fail
        go_region_held3 (fun w' => w'.cell? ⟨b, 1, none⟩ = some (.iface Tx ux) ∧ w'.cell? ⟨b, 2, none⟩ = some (.iface Ty uy)) (go_keep) (first | (go_at_call 163; refine Calls.mono HC.out ?_; rintro e w2 ⟨T2, u2, rfl, j1, j2, HD⟩; clear HC) | (go_at_call 163; refine Calls.mono HD.out ?_; rintro e w3 ⟨T3, u3, rfl, k1, k2, HF⟩; clear HD))
        all_goals
          go_wp2
          go_ret
          have hp := HP.out
          rw [← hp]
          exact HF.out
end Go.Proofs.YtleenphlgbklmabGreatDoor

namespace Go.Proofs.YtleenphlgbklmabGreatDoor
open Go.RowKit

theorem Tryz.eqlNN (w : World) : (binOp .eql 124 (.pointer none) (.pointer none)).run Tryz.prog w = .ok (.bool true) w := by kernel_rfl
theorem Tryz.eqlSN (a : Addr) (w : World) : (binOp .eql 124 (.pointer (some a)) (.pointer none)).run Tryz.prog w = .ok (.bool false) w := by kernel_rfl
theorem Tryz.eqlNS (a : Addr) (w : World) : (binOp .eql 124 (.pointer none) (.pointer (some a))).run Tryz.prog w = .ok (.bool false) w := by kernel_rfl
theorem eql_vars {w : World} {b c : Nat} (hb : VBk w b) (hc : VBk w c) : (binOp .eql 124 (.pointer (some ⟨b, 0, none⟩)) (.pointer (some ⟨c, 0, none⟩))).run Tryz.prog w = .ok (.bool (b == c)) w := by
  have := eq_vars w b c hb hc
  simp [binOp, this, Result.andThen]
def VKv (σ : St) (m : List (Nat × Nat)) : Prop := ∀ e, e ∈ m → ∃ nd, σ[e.2]? = some nd ∧ nd.k.kd = .vr
theorem lookF_mem {i j : Nat} : ∀ {m : List (Nat × Nat)}, lookF i m = some j → ∃ e, e ∈ m ∧ e.2 = j
  | [], h => by simp [lookF] at h
  | e :: m, h => by
    simp only [lookF] at h
    split at h
    · simp only [Option.some.injEq] at h
      exact ⟨e, by simp, h⟩
    · obtain ⟨e', h1, h2⟩ := lookF_mem h
      exact ⟨e', by simp [h1], h2⟩
theorem lookF_snoc {i a c : Nat} : ∀ {m : List (Nat × Nat)}, lookF i m = none → lookF i (m ++ [(a, c)]) = if i == a then some c else none
  | [], _ => by simp [lookF]
  | e :: m, h => by
    simp only [lookF] at h
    split at h
    · simp at h
    · rename_i hne
      simp only [List.cons_append, lookF, hne, if_false]
      exact lookF_snoc h
theorem lookF_some {i j : Nat} (x : List (Nat × Nat)) : ∀ {m : List (Nat × Nat)}, lookF i m = some j → lookF i (m ++ x) = some j
  | [], h => by simp [lookF] at h
  | e :: m, h => by
    simp only [lookF] at h
    simp only [List.cons_append, lookF]
    split at h
    · rename_i hq; simp only [hq, if_true]; exact h
    · rename_i hq; simp only [hq, if_false]; exact lookF_some x h
def PrO (w : World) (mb : Nat) (ad : List Nat) (σ : St) (p : Bool × List (Nat × Nat)) (e : Ending) (w' : World) : Prop := e = .returned (.bool p.1) ∧ SX w' ad σ ∧ VV w' mb ad σ p.2 ∧ VKv σ p.2 ∧ Kt ad (fun q => q = mb) w w'
set_option maxRecDepth 20000 in
set_option maxHeartbeats 2000000 in
theorem pair_vv {w : World} {mb : Nat} {ad : List Nat} {σ : St} {m : List (Nat × Nat)} {i j b c : Nat} {nd nd' : Nd} (hs : SX w ad σ) (hm : VV w mb ad σ m) (hv : VKv σ m) (hi : σ[i]? = some nd) (hk : nd.k.kd = .vr) (hb : ad[i]? = some b) (hj : σ[j]? = some nd') (hk' : nd'.k.kd = .vr) (hc : ad[j]? = some c) (hne : i ≠ j) : Calls Tryz.prog 200 #[.map (some mb), .pointer (some ⟨b, 0, none⟩), .pointer (some ⟨c, 0, none⟩)] w (PrO w mb ad σ (pairF i j m)) := by
  have vb := hs.vbk2 hi hk hb
  have vc := hs.vbk2 hj hk' hc
  have L1 := look_vv hm hs hi hk hb 338 Tryz.underlying338
  have L2 := look_vv hm hs hj hk' hc 338 Tryz.underlying338
  unfold pairF
  cases h1 : lookF i m with
  | some x =>
    obtain ⟨d, hd, _, hl⟩ := L1.1 x h1
    obtain ⟨e, he, hee⟩ := lookF_mem h1
    obtain ⟨nx, hx, hkx⟩ := hv e he
    rw [hee] at hx
    have vd := hs.vbk2 hx hkx hd
    have q1 := Tryz.eqlSN ⟨d, 0, none⟩ w
    have q2 := eql_vars vd vc
    have e : (d == c) = (x == j) := by
      rw [Bool.eq_iff_iff, beq_iff_eq, beq_iff_eq]
      constructor
      · intro z; subst z; exact nodup_get hs.nodup hd hc
      · intro z; subst z; rw [hd] at hc; simpa using hc
    have HF : Hid (PrO w mb ad σ (x == j, m) (.returned (.bool (x == j))) w) := ⟨rfl, hs, hm, hv, Kt.refl _ _ _⟩
    rw [e] at q2
    clear L1 L2 vb vc vd hs hm hv hi hj hx hd he e
    go_enter Tryz.func200, Tryz.ntmps200
    go_wp2
    go_ret
    exact HF.out
  | none =>
    obtain ⟨_, hl⟩ := L1.2 h1
    have q0 := Tryz.eqlNN w
    cases h2 : lookF j m with
    | some y =>
      obtain ⟨d, hd, _, hl2⟩ := L2.1 y h2
      have q1 := Tryz.eqlSN ⟨d, 0, none⟩ w
      have q2 := Tryz.eqlNS ⟨c, 0, none⟩ w
      have HF : Hid (PrO w mb ad σ (false, m) (.returned (.bool false)) w) := ⟨rfl, hs, hm, hv, Kt.refl _ _ _⟩
      clear L1 L2 vb vc hs hm hv hi hj hd
      go_enter Tryz.func200, Tryz.ntmps200
      go_wp2
      go_ret
      exact HF.out
    | none =>
      obtain ⟨_, hl2⟩ := L2.2 h2
      obtain ⟨w1, p1, s1, m1, k1⟩ := put_vv hm hs hi hk hb hc h1 338 Tryz.underlying338
      have h3 : lookF j (m ++ [(i, j)]) = none := by
        rw [lookF_snoc h2]
        simp [Ne.symm hne]
      obtain ⟨w2, p2, s2, m2, k2⟩ := put_vv m1 s1 hj hk' hc hb h3 338 Tryz.underlying338
      have h4 : lookF i ((m ++ [(i, j)]) ++ [(j, i)]) = some j := lookF_some _ (by rw [lookF_snoc h1]; simp)
      obtain ⟨d, hd2, _, hl3⟩ := (look_vv m2 s2 hi hk hb 338 Tryz.underlying338).1 j h4
      have e : d = c := by rw [hd2] at hc; simpa using hc
      subst e
      have vd := s2.vbk2 hj hk' hc
      have q2 := eql_vars vd vd
      simp only [BEq.rfl] at q2
      have HF : Hid (PrO w mb ad σ (true, m ++ [(i, j), (j, i)]) (.returned (.bool true)) w2) := by
        refine ⟨rfl, s2, ?_, ?_, k1.trans k2⟩
        · simpa using m2
        · intro e he
          simp at he
          rcases he with he | rfl | rfl
          · exact hv e he
          · exact ⟨nd', hj, hk'⟩
          · exact ⟨nd, hi, hk⟩
      clear L1 L2 vb vc hs hm hv hi hj hd2 h4 m2 s2 h3 m1 s1 k1 k2 vd
      go_enter Tryz.func200, Tryz.ntmps200
      go_wp2
      go_ret
      exact HF.out
end Go.Proofs.YtleenphlgbklmabGreatDoor

namespace Go.Proofs.YtleenphlgbklmabGreatDoor
open Go.RowKit

def SSame (n : Nat) : Prop := ∀ (σ : St) (x y : TR) (m : List (Nat × Nat)) (p : Bool × List (Nat × Nat)), sameF n σ x y m = some p → ∀ (w : World) (ad : List Nat) (v u : Value) (mb : Nat), SX w ad σ → RV ad x v → RV ad y u → VV w mb ad σ m → VKv σ m →
  Calls Tryz.prog 195 #[.map (some mb), v, u] w (PrO w mb ad σ p)
theorem PrO.pre {w w1 w' : World} {mb : Nat} {ad : List Nat} {σ : St} {p : Bool × List (Nat × Nat)} {e : Ending} (k : Kt ad (fun q => q = mb) w w1) (h : PrO w1 mb ad σ p e w') : PrO w mb ad σ p e w' := ⟨h.1, h.2.1, h.2.2.1, h.2.2.2.1, k.trans h.2.2.2.2⟩
theorem genB_some {σ : St} {i : Nat} {g : Bool} (h : genB σ i = some g) : ∃ nm, σ[i]? = some ⟨.vr nm g, none⟩ := by
  simp only [genB] at h
  split at h
  · rename_i nm g' hi
    simp only [Option.some.injEq] at h
    subst h
    exact ⟨nm, hi⟩
  · simp at h
set_option maxRecDepth 20000 in
set_option maxHeartbeats 4000000 in
theorem same_sx : ∀ n, SSame n := by
  intro n
  induction n with
  | zero => intro σ x y m p h; simp [sameF] at h
  | succ n ih =>
    rintro σ x y m ⟨pb, pm⟩ h w ad v u mb hs hv hu hm hvk
    simp only [sameF, Option.bind_eq_some_iff] at h
    obtain ⟨x0, hx, y0, hy, h⟩ := h
    have hx := repF_rp _ hx
    have hy := repF_rp _ hy
    have HKX : Hid _ := known_se hx w v hs hv
    have HKY : Hid _ := fun (w1 : World) (h1 : SX w1 ad σ) => known_se hy w1 u h1 hu
    have HRX : Hid _ := hx.root_of
    have HRY : Hid _ := hy.root_of
    have HM : Hid _ := hm
    have HVK : Hid _ := hvk
    have HIH : Hid _ := ih
    obtain ⟨T, z, rfl⟩ := hv.iface
    obtain ⟨T', z', rfl⟩ := hu.iface
    have HMO : Hid (∀ {w1 w2 : World}, Kt ad (fun _ => False) w1 w2 → Kt ad (fun q => q = mb) w1 w2) := fun k => k.mono (fun _ _ z => z.elim)
    clear hs hv hu hx hy ih hm hvk
    go_enter Tryz.func195, Tryz.ntmps195
    go_wp2_with fail
    refine Calls.mono HKX.out ?_
    rintro e w1 ⟨v0, rfl, hv0, hs1, hk1⟩
    have HC : Hid _ := HKY.out w1 hs1
    have HV0 : Hid _ := hv0
    have HK1 : Hid _ := hk1
    obtain ⟨T0, z0, rfl⟩ := hv0.iface
    clear hv0 hs1 hk1 HKX HKY
    go_wp2_with fail
    refine Calls.mono HC.out ?_
    rintro e w2 ⟨u0, rfl, hu0, hs2, hk2⟩
    have HU0 : Hid _ := hu0
    have HS2 : Hid _ := hs2
    have HK2 : Hid _ := HMO.out (HK1.out.trans hk2)
    have HM2 : Hid _ := VV.kt HM.out (HK1.out.trans hk2) id
    have heq := eql_tr hs2 HV0.out hu0
    obtain ⟨T1, z1, rfl⟩ := hu0.iface
    clear hu0 hs2 hk2 HC HK1 HM
    have HT : Hid (∀ b, (pb, pm) = (b, m) → PrO w mb ad σ (pb, pm) (.returned (.bool b)) w2) := fun b e => by
      rw [e]
      exact ⟨rfl, HS2.out, HM2.out, HVK.out, HK2.out⟩
    split at h
    · rename_i hb
      simp only [Option.some.injEq] at h
      rw [hb] at heq
      have HF : Hid _ := HT.out true h.symm
      clear h
      go_wp2
      go_ret
      exact HF.out
    · rename_i hb
      have hb : x0.eqb y0 = false := by simpa using hb
      rw [hb] at heq
      split at h
      · rename_i i hi
        obtain ⟨b, hbi, hve, hxe, hta⟩ := ta_var HV0.out hi
        have hta := hta w2
        split at h
        · rename_i hj
          obtain ⟨q, htb⟩ := ta_not HU0.out hj
          have htb := htb w2
          simp only [Option.some.injEq] at h
          have HF : Hid _ := HT.out false h.symm
          clear h hve hxe hbi hi hj hb
          go_wp2
          go_ret
          exact HF.out
        · rename_i j hj
          obtain ⟨c, hcj, hue, hye, htb⟩ := ta_var HU0.out hj
          have htb := htb w2
          simp only [Option.bind_eq_some_iff] at h
          obtain ⟨gi, hgi, h⟩ := h
          obtain ⟨nm, hni⟩ := genB_some hgi
          have c1 := SX.vcell HS2.out hni hbi
          split at h
          · rename_i hg
            rw [hg] at c1
            simp only [Option.bind_eq_some_iff] at h
            obtain ⟨gj, hgj, h⟩ := h
            obtain ⟨nm', hnj⟩ := genB_some hgj
            have c2 := SX.vcell HS2.out hnj hcj
            split at h
            · rename_i hg2
              rw [hg2] at c2
              simp only [Option.some.injEq] at h
              have hne : i ≠ j := fun z => by
                subst z
                rw [hxe, hye] at hb
                rw [TR.eqb_ff] at hb
                exact hb rfl
              have HC : Hid _ := pair_vv HS2.out HM2.out HVK.out hni rfl hbi hnj rfl hcj hne
              rw [h] at HC
              clear h hve hxe hbi hi hj hb hue hye hcj hni hnj hgi hgj hg hg2 hne
              go_wp2_with fail
              refine Calls.mono HC.out ?_
              rintro e w3 ⟨rfl, hE⟩
              have HF : Hid (PrO w mb ad σ (pb, pm) (.returned (.bool pb)) w3) := PrO.pre HK2.out ⟨rfl, hE⟩
              clear HC hE
              go_wp2
              go_ret
              exact HF.out
            · rename_i hg2
              have hg2 : gj = false := by simpa using hg2
              rw [hg2] at c2
              simp only [Option.some.injEq] at h
              have HF : Hid _ := HT.out false h.symm
              clear h hve hxe hbi hi hj hb hue hye hcj hni hnj hgi hgj hg hg2
              go_wp2
              go_ret
              exact HF.out
          · rename_i hg
            have hg : gi = false := by simpa using hg
            rw [hg] at c1
            simp only [Option.some.injEq] at h
            have HF : Hid _ := HT.out false h.symm
            clear h hve hxe hbi hi hj hb hue hye hcj hni hgi hg
            go_wp2
            go_ret
            exact HF.out
      · rename_i hi
        obtain ⟨q, hta⟩ := ta_not HV0.out hi
        have hta := hta w2
        have HA : Hid _ := alike_tr HV0.out HU0.out hi w2
        clear hi hb
        go_wp2_with fail
        refine Calls.mono HA.out ?_
        rintro e w' ⟨rfl, hww⟩
        rw [hww]
        clear hww w' HA
        split at h
        · rename_i hal
          rw [hal]
          simp only [Option.bind_eq_some_iff] at h
          obtain ⟨os, hos, ks, hks, h⟩ := h
          split at h
          · rename_i a c
            obtain ⟨Ty, uy, fy, rvy, T5, u5, ey, hmy, hcfy, hy1, HBY⟩ := below1 HS2.out HRY.out HU0.out hos
            simp only [Value.iface.injEq] at ey
            obtain ⟨rfl, rfl⟩ := ey
            have HBY : Hid _ := HBY
            have HY1 : Hid _ := hy1
            have HKS : Hid _ := hks
            clear hos hy1 hal hks
            go_wp2_with fail
            refine Calls.mono HBY.out ?_
            rintro e w3 ⟨g, rfl, hg1, hbl, hk3⟩
            have HS3 : Hid _ := SX.kept HS2.out hk3
            have HK3 : Hid _ := hk3
            clear HBY hk3 hmy hcfy hg1
            obtain ⟨Tx, ux, fx, rvx, T2, u2, ex, hmx, hcfx, hx1, HBX⟩ := below1 HS3.out HRX.out HV0.out HKS.out
            simp only [Value.iface.injEq] at ex
            obtain ⟨rfl, rfl⟩ := ex
            have HBX : Hid _ := HBX
            have HX1 : Hid _ := hx1
            have HBL : Hid _ := hbl
            clear hx1 HKS hbl
            go_wp2_with fail
            refine Calls.mono HBX.out ?_
            rintro e w4 ⟨g2, rfl, hg2, hbl2, hk4⟩
            have hblY := hk4.blk HBL.out
            have hkk := HK3.out.trans hk4
            have HC : Hid _ := HIH.out σ a c m (pb, pm) h w4 ad _ _ mb (SX.kept HS3.out hk4) HX1.out HY1.out (VV.kt HM2.out (Kt.of_kept (ad := ad) (S := fun _ => False) hkk) id) HVK.out
            have HK4 : Hid _ := HK2.out.trans (Kt.of_kept hkk)
            clear HBX hk4 hmx hcfx hg2 h HIH hkk
            have d0 : w4.cell? ⟨g, 0, none⟩ = some (.iface T5 u5) := by simp [World.cell?, hblY]
            have d1 : w4.cell? ⟨g2, 0, none⟩ = some (.iface T2 u2) := by simp [World.cell?, hbl2]
            clear hblY hbl2
            go_wp2_with fail
            refine wp_loop_rounds 2 ?_
            rw [rounds_succ]
            go_wp2_with fail
            refine Calls.mono HC.out ?_
            rintro e w5 ⟨rfl, hE⟩
            have HF : Hid (PrO w mb ad σ (pb, pm) (.returned (.bool pb)) w5) := PrO.pre HK4.out ⟨rfl, hE⟩
            clear HC hE HT
            cases pb with
            | true =>
              go_wp2
              rw [rounds_succ]
              go_wp2
              go_ret
              exact HF.out
            | false =>
              go_wp2
              go_ret
              exact HF.out
          · rename_i a b c d
            simp only [Option.bind_eq_some_iff] at h
            obtain ⟨⟨b1, m1⟩, h1, h⟩ := h
            obtain ⟨Ty, uy, fy, rvy, T5, u5, T6, u6, ey, hmy, hcfy, hy1, hy2, HBY⟩ := below2 HS2.out HRY.out HU0.out hos
            simp only [Value.iface.injEq] at ey
            obtain ⟨rfl, rfl⟩ := ey
            have HBY : Hid _ := HBY
            have HY1 : Hid _ := hy1
            have HY2 : Hid _ := hy2
            have HKS : Hid _ := hks
            have HH : Hid _ := h
            have HH1 : Hid _ := h1
            clear hos hy1 hal hks hy2 h h1
            go_wp2_with fail
            refine Calls.mono HBY.out ?_
            rintro e w3 ⟨g, rfl, hg1, hbl, hk3⟩
            have HS3 : Hid _ := SX.kept HS2.out hk3
            have HK3 : Hid _ := hk3
            have HGM : Hid (mb < w2.heap.size) := by
              obtain ⟨l, hl, _⟩ := HM2.out
              exact lt_of_block hl
            have HG1 : Hid (¬ g = mb) := fun z => by have := HGM.out; have := hg1; omega
            clear HBY hk3 hmy hcfy hg1
            obtain ⟨Tx, ux, fx, rvx, T2, u2, T4, u4, ex, hmx, hcfx, hx1, hx2, HBX⟩ := below2 HS3.out HRX.out HV0.out HKS.out
            simp only [Value.iface.injEq] at ex
            obtain ⟨rfl, rfl⟩ := ex
            have HBX : Hid _ := HBX
            have HX1 : Hid _ := hx1
            have HX2 : Hid _ := hx2
            have HBL : Hid _ := hbl
            clear hx1 HKS hbl hx2
            go_wp2_with fail
            refine Calls.mono HBX.out ?_
            rintro e w4 ⟨g2, rfl, hg2, hbl2, hk4⟩
            have hblY := hk4.blk HBL.out
            have hkk := HK3.out.trans hk4
            have HG2 : Hid (¬ g2 = mb) := fun z => by have := HGM.out; have := HK3.out.size; have := hg2; omega
            have HC : Hid _ := HIH.out σ a c m (b1, m1) HH1.out w4 ad _ _ mb (SX.kept HS3.out hk4) HX1.out HY1.out (VV.kt HM2.out (Kt.of_kept (ad := ad) (S := fun _ => False) hkk) id) HVK.out
            have HK4 : Hid _ := HK2.out.trans (Kt.of_kept hkk)
            clear HBX hk4 hmx hcfx hg2 hkk
            have d0 : w4.cell? ⟨g, 0, none⟩ = some (.iface T5 u5) := by simp [World.cell?, hblY]
            have d1 : w4.cell? ⟨g2, 0, none⟩ = some (.iface T2 u2) := by simp [World.cell?, hbl2]
            have HBY : Hid _ := hblY
            have HBX : Hid _ := hbl2
            clear hblY hbl2
            go_wp2_with fail
            refine wp_loop_rounds 3 ?_
            rw [rounds_succ]
            go_wp2_with fail
            refine Calls.mono HC.out ?_
            intro e w5 hE
            obtain ⟨rfl, hs5, hm5, hv5, hk45⟩ := hE
            have hk5 := HK4.out.trans hk45
            have HE5 : Hid (PrO w mb ad σ (b1, m1) (.returned (.bool b1)) w5) := ⟨rfl, hs5, hm5, hv5, hk5⟩
            have HK5 : Hid _ := hk5
            have hbY := hk45.typs HBY.out HG1.out
            have hbX := hk45.typs HBX.out HG2.out
            have d2 : w5.cell? ⟨g, 1, none⟩ = some (.iface T6 u6) := by simp [World.cell?, hbY]
            have d3 : w5.cell? ⟨g2, 1, none⟩ = some (.iface T4 u4) := by simp [World.cell?, hbX]
            clear HC hbY hbX hk45 hk5
            cases b1 with
            | false =>
              have hh := HH.out
              simp only [Bool.false_eq_true, if_false, Option.some.injEq] at hh
              have HF : Hid (PrO w mb ad σ (pb, pm) (.returned (.bool false)) w5) := by
                rw [← hh]
                exact HE5.out
              clear hh hs5 hm5 hv5
              go_wp2
              go_ret
              exact HF.out
            | true =>
              have hh := HH.out
              simp only [if_true] at hh
              have HC : Hid _ := HIH.out σ b d m1 (pb, pm) hh w5 ad _ _ mb hs5 HX2.out HY2.out hm5 hv5
              clear hh hs5 hm5 hv5 HIH
              go_wp2_with fail
              rw [rounds_succ]
              go_wp2_with fail
              refine Calls.mono HC.out ?_
              rintro e w6 ⟨rfl, hE⟩
              have HF : Hid (PrO w mb ad σ (pb, pm) (.returned (.bool pb)) w6) := PrO.pre HK5.out ⟨rfl, hE⟩
              clear HC hE HT HH
              cases pb with
              | true =>
                go_wp2
                rw [rounds_succ]
                go_wp2
                go_ret
                exact HF.out
              | false =>
                go_wp2
                go_ret
                exact HF.out
          · simp at h
        · rename_i hal
          have hal : alkF x0 y0 = false := by simpa using hal
          simp only [Option.some.injEq] at h
          rw [hal]
          have HF : Hid _ := HT.out false h.symm
          clear h hal
          go_wp2
          go_ret
          exact HF.out
end Go.Proofs.YtleenphlgbklmabGreatDoor

namespace Go.Proofs.YtleenphlgbklmabGreatDoor
open Go.RowKit

/-- the map of what names stand for: a list of pairs, in the order in which they came. -/
def kAt (kv : List (ByteArray × ByteArray)) (j : Nat) : ByteArray × ByteArray := kv.getD j ({ data := #[] }, { data := #[] })
def tEnt (kv : List (ByteArray × ByteArray)) (j : Nat) : MapEntry := { key := .string (kAt kv j).1, val := .agg #[.string (kAt kv j).2], born := j }
def tEs (kv : List (ByteArray × ByteArray)) : Array MapEntry := ((List.range kv.length).map (tEnt kv)).toArray
structure SM (w : World) (mb : Nat) (kv : List (ByteArray × ByteArray)) : Prop where
  mp : w.heap[mb]? = some (.map (tEs kv) kv.length)
  nd : (kv.map Prod.fst).Nodup
theorem tEs_snoc (kv : List (ByteArray × ByteArray)) (nm x : ByteArray) : (tEs kv).push { key := .string nm, val := .agg #[.string x], born := kv.length } = tEs (kv ++ [(nm, x)]) := by
  unfold tEs
  rw [List.length_append, List.length_singleton, List.range_succ, List.map_append]
  have e1 : (List.range kv.length).map (tEnt kv) = (List.range kv.length).map (tEnt (kv ++ [(nm, x)])) := by
    apply List.map_congr_left
    intro j hj
    have hj : j < kv.length := List.mem_range.1 hj
    simp [tEnt, kAt, List.getD, List.getElem?_append_left hj]
  have e2 : tEnt (kv ++ [(nm, x)]) kv.length = { key := .string nm, val := .agg #[.string x], born := kv.length } := by
    simp [tEnt, kAt, List.getD]
  rw [e1]
  simp [e2]
theorem tEs_get (kv : List (ByteArray × ByteArray)) (j : Nat) : (tEs kv).toList[j]? = if j < kv.length then some (tEnt kv j) else none := by
  simp only [tEs]
  by_cases h : j < kv.length
  · simp [h]
  · simp [h]
theorem find_ts (kv : List (ByteArray × ByteArray)) (nm : ByteArray) (hn : (kv.map Prod.fst).Nodup) : Instr.findNow .string (.string nm) (tEs kv).toList 0 = some ((kv.findIdx? (fun x => sameS x.1 nm)).map fun j => (j, .agg #[.string (kAt kv j).2])) := by
  have hk : MapKept.IsKey .string (.string nm) := by simp [MapKept.IsKey]
  have hall : ∀ x, x ∈ (tEs kv).toList → MapKept.IsKey .string x.key := fun x hx => by
    simp only [tEs, List.mem_map] at hx
    obtain ⟨j, _, rfl⟩ := hx
    simp [tEnt, MapKept.IsKey]
  have gd : ∀ j (h : j < kv.length), kAt kv j = kv[j] := fun j h => by simp [kAt, List.getD, h]
  rcases MapKept.findNow_spec hk (tEs kv).toList 0 hall with ⟨h1, h2⟩ | ⟨j, e, h1, h2, h3⟩
  · have : kv.findIdx? (fun x => sameS x.1 nm) = none := by
      rw [List.findIdx?_eq_none_iff]
      intro x hx
      obtain ⟨j, hj, rfl⟩ := List.getElem_of_mem hx
      rw [Bool.eq_false_iff]
      intro q
      have q := (sameS_iff _ _).1 q
      have hm : tEnt kv j ∈ (tEs kv).toList := by
        simp only [tEs, List.mem_map]
        exact ⟨j, by simpa using hj, rfl⟩
      refine h2 _ hm ?_
      simp only [tEnt]
      rw [gd j hj, q]
    rw [h1, this]
    rfl
  · rw [tEs_get] at h2
    by_cases hj : j < kv.length
    · rw [if_pos hj] at h2
      obtain rfl := Option.some.inj h2
      have q : kv[j].1 = nm := by
        simp only [tEnt] at h3
        rw [gd j hj] at h3
        injection h3
      have : kv.findIdx? (fun x => sameS x.1 nm) = some j := by
        rw [List.findIdx?_eq_some_iff_getElem]
        refine ⟨hj, (sameS_iff _ _).2 q, ?_⟩
        intro i hi z
        have z := (sameS_iff _ _).1 z
        have := (List.pairwise_iff_getElem.1 hn) i j (by simp; omega) (by simpa using hj) hi
        simp at this
        exact this (z.trans q.symm)
      rw [h1, this]
      simp [tEnt]
    · rw [if_neg hj] at h2
      cases h2
theorem Tryz.zeroTyped (w : World) : (zeroValue 68).run Tryz.prog w = .ok (.agg #[.string { data := #[] }]) w := by kernel_rfl
theorem run_tlook (M : TypeId) (hM : Tryz.prog.underlying M = some (.map 9 68)) (w : World) (mb : Nat) (kv : List (ByteArray × ByteArray)) (nm : ByteArray) (h : SM w mb kv) :
    (Instr.lookup M (.map (some mb)) (.string nm) true).run Tryz.prog w = .ok (match kv.findIdx? (fun x => sameS x.1 nm) with | some j => .tuple #[.agg #[.string (kAt kv j).2], .bool true] | none => .tuple #[.agg #[.string { data := #[] }], .bool false]) w := by
  have hf := find_ts kv nm h.nd
  have hc : ∀ e, (Instr.checkKey e 10000 9 (.string nm)).run Tryz.prog w = .ok () w := fun e => MapKept.run_checkKey Tryz.underlying9 (by simp [MapKept.IsKey]) e 9999
  have hz := Tryz.zeroTyped w
  simp only [Instr.lookup, Sem.run_bind, run_underlying hM, MapKept.run_getObj_map h.mp, Result.andThen, Sem.run_pure, hc, MapKept.run_findKey Tryz.underlying9 hf]
  cases kv.findIdx? (fun x => sameS x.1 nm) with
  | none => simp [hz, Result.andThen]
  | some j => simp
theorem run_tlook1 (M : TypeId) (hM : Tryz.prog.underlying M = some (.map 9 68)) (w : World) (mb : Nat) (kv : List (ByteArray × ByteArray)) (nm : ByteArray) (h : SM w mb kv) :
    (Instr.lookup M (.map (some mb)) (.string nm) false).run Tryz.prog w = .ok (match kv.findIdx? (fun x => sameS x.1 nm) with | some j => .agg #[.string (kAt kv j).2] | none => .agg #[.string { data := #[] }]) w := by
  have hf := find_ts kv nm h.nd
  have hc : ∀ e, (Instr.checkKey e 10000 9 (.string nm)).run Tryz.prog w = .ok () w := fun e => MapKept.run_checkKey Tryz.underlying9 (by simp [MapKept.IsKey]) e 9999
  have hz := Tryz.zeroTyped w
  simp only [Instr.lookup, Sem.run_bind, run_underlying hM, MapKept.run_getObj_map h.mp, Result.andThen, Sem.run_pure, hc, MapKept.run_findKey Tryz.underlying9 hf]
  cases kv.findIdx? (fun x => sameS x.1 nm) with
  | none => simp [hz, Result.andThen]
  | some j => simp
theorem run_tput (M : TypeId) (hM : Tryz.prog.underlying M = some (.map 9 68)) (w : World) (mb : Nat) (kv : List (ByteArray × ByteArray)) (nm x : ByteArray) (h : SM w mb kv) (hj : kv.findIdx? (fun x => sameS x.1 nm) = none) :
    (Instr.mapUpdate M (.map (some mb)) (.string nm) (.agg #[.string x])).run Tryz.prog w = .ok () (mapSet w mb (.map (tEs (kv ++ [(nm, x)])) (kv.length + 1))) := by
  have hf := find_ts kv nm h.nd
  rw [hj] at hf
  have hf : Instr.findNow .string (.string nm) (tEs kv).toList 0 = some none := hf
  have hc : (Instr.checkKey false 10000 9 (.string nm)).run Tryz.prog w = .ok () w := MapKept.run_checkKey Tryz.underlying9 (by simp [MapKept.IsKey]) false 9999
  rw [← tEs_snoc kv]
  simp [mapSet, Instr.mapUpdate, run_underlying hM, MapKept.run_getObj_map h.mp, hc, MapKept.run_findKey Tryz.underlying9 hf, MapKept.run_setObj_map _ h.mp, Result.andThen]
theorem SM.put {w : World} {mb : Nat} {kv : List (ByteArray × ByteArray)} (h : SM w mb kv) (nm x : ByteArray) (hj : kv.findIdx? (fun x => sameS x.1 nm) = none) : SM (mapSet w mb (.map (tEs (kv ++ [(nm, x)])) (kv.length + 1))) mb (kv ++ [(nm, x)]) := by
  refine ⟨?_, ?_⟩
  · rw [mapSet_same _ _ _ (lt_of_block h.mp)]
    simp
  · rw [List.map_append, List.nodup_append]
    refine ⟨h.nd, by simp, ?_⟩
    intro a ha b hb
    simp at hb
    subst hb
    rw [List.findIdx?_eq_none_iff] at hj
    obtain ⟨y, hy, rfl⟩ := List.mem_map.1 ha
    intro z
    have := hj y hy
    rw [Bool.eq_false_iff] at this
    exact this ((sameS_iff _ _).2 z)
end Go.Proofs.YtleenphlgbklmabGreatDoor

namespace Go.Proofs.YtleenphlgbklmabGreatDoor
open Go.RowKit

/-- a map of names to types. -/
def gE : List (ByteArray × Value) → Nat → List MapEntry
  | [], _ => []
  | e :: l, i => { key := .string e.1, val := e.2, born := i } :: gE l (i + 1)
theorem gE_snoc (l : List (ByteArray × Value)) (e : ByteArray × Value) : ∀ i, gE (l ++ [e]) i = gE l i ++ [{ key := .string e.1, val := e.2, born := i + l.length }] := by
  induction l with
  | nil => intro i; simp [gE]
  | cons c l ih =>
    intro i
    have e : i + 1 + l.length = i + (l.length + 1) := by omega
    simp [gE, ih, e]
def askS (n : ByteArray) : List (ByteArray × Value) → Nat → Option (Nat × Value)
  | [], _ => none
  | e :: l, i => if bq n e.1 then some (i, e.2) else askS n l (i + 1)
theorem bq_eq (a b : ByteArray) : bq a b = decide (a = b) := by
  by_cases h : a = b
  · simp [h, bq_iff.2 rfl]
  · have : bq a b = false := by rw [Bool.eq_false_iff]; exact fun z => h (bq_iff.1 z)
    simp [h, this]
theorem ba_beq (a b : ByteArray) : (a == b) = decide (a = b) := by
  have h : (a == b) = (a.data == b.data) := rfl
  rw [h]
  by_cases e : a = b
  · subst e; simp
  · have : a.data ≠ b.data := fun z => e (ByteArray.ext z)
    simp [e, this]
theorem find_gs (n : ByteArray) (l : List (ByteArray × Value)) : ∀ i, Instr.findNow .string (.string n) (gE l i) i = some (askS n l i) := by
  induction l with
  | nil => intro i; rfl
  | cons c l ih =>
    intro i
    have h := ih (i + 1)
    by_cases e : n = c.1
    · have e1 : (n == c.1) = true := by rw [ba_beq]; simp [e]
      simp only [gE, Instr.findNow, Instr.sameNow, askS, bq_eq, e1]
      simp [e]
    · have e1 : (n == c.1) = false := by rw [ba_beq]; simp [e]
      simp only [gE, Instr.findNow, Instr.sameNow, askS, bq_eq, e1, h]
      simp [e]
def GB (ad : List Nat) : Gv → List (ByteArray × Value) → Prop
  | [], [] => True
  | e :: g, c :: l => e.1 = c.1 ∧ RV ad e.2 c.2 ∧ GB ad g l
  | _, _ => False
theorem GB.up {ad : List Nat} (u : List Nat) : ∀ {g : Gv} {l : List (ByteArray × Value)}, GB ad g l → GB (ad ++ u) g l
  | [], [], _ => trivial
  | e :: g, c :: l, h => ⟨h.1, h.2.1.up u, h.2.2.up u⟩
  | [], _ :: _, h => h.elim
  | _ :: _, [], h => h.elim
theorem GB.snoc {ad : List Nat} {n : ByteArray} {r : TR} {v : Value} (hv : RV ad r v) : ∀ {g : Gv} {l : List (ByteArray × Value)}, GB ad g l → GB ad (g ++ [(n, r)]) (l ++ [(n, v)])
  | [], [], _ => ⟨rfl, hv, trivial⟩
  | e :: g, c :: l, h => ⟨h.1, h.2.1, GB.snoc hv h.2.2⟩
  | [], _ :: _, h => h.elim
  | _ :: _, [], h => h.elim
theorem GB.look {ad : List Nat} {n : ByteArray} : ∀ {g : Gv} {l : List (ByteArray × Value)} (k : Nat), GB ad g l → (∀ r, findG n g = some r → ∃ p v, askS n l k = some (p, v) ∧ RV ad r v) ∧ (findG n g = none → askS n l k = none)
  | [], [], k, _ => ⟨fun r h => by simp [findG] at h, fun _ => rfl⟩
  | e :: g, c :: l, k, h => by
    have ih := GB.look (n := n) (k + 1) h.2.2
    simp only [findG, askS, h.1]
    split
    · exact ⟨fun r hr => by
        simp only [Option.some.injEq] at hr
        subst hr
        exact ⟨_, _, rfl, h.2.1⟩, fun z => by simp at z⟩
    · exact ih
  | [], _ :: _, _, h => h.elim
  | _ :: _, [], _, h => h.elim
/-- the given names lie in memory. -/
def GM (w : World) (gm : Nat) (ad : List Nat) (g : Gv) : Prop := ∃ l, w.heap[gm]? = some (.map (gE l 0).toArray l.length) ∧ GB ad g l
theorem GM.kt {w w' : World} {gm : Nat} {ad ad2 : List Nat} {g : Gv} {S : Nat → Prop} (h : GM w gm ad g) (k : Kt ad2 S w w') (hS : ¬ S gm) : GM w' gm ad g := by
  obtain ⟨l, h1, h2⟩ := h
  exact ⟨l, k.blk _ _ h1 hS (by rintro ⟨cs, e, f, he, _⟩; cases he), h2⟩
theorem GM.up {w : World} {gm : Nat} {ad : List Nat} {g : Gv} (h : GM w gm ad g) (u : List Nat) : GM w gm (ad ++ u) g := by
  obtain ⟨l, h1, h2⟩ := h
  exact ⟨l, h1, h2.up u⟩
theorem look_gm {w : World} {gm : Nat} {ad : List Nat} {g : Gv} (h : GM w gm ad g) (n : ByteArray) :
    (∀ r, findG n g = some r → ∃ v, RV ad r v ∧ (Instr.lookup 166 (.map (some gm)) (.string n) true).run Tryz.prog w = .ok (.tuple #[v, .bool true]) w) ∧ (findG n g = none → (Instr.lookup 166 (.map (some gm)) (.string n) true).run Tryz.prog w = .ok (.tuple #[.nilIface, .bool false]) w) := by
  obtain ⟨l, h1, h2⟩ := h
  have hf := find_gs n l 0
  have hc : ∀ e, (Instr.checkKey e 10000 9 (.string n)).run Tryz.prog w = .ok () w := fun e => MapKept.run_checkKey Tryz.underlying9 (by simp [MapKept.IsKey]) e 9999
  have hz : (zeroValue 77).run Tryz.prog w = .ok .nilIface w := by kernel_rfl
  have key : (Instr.lookup 166 (.map (some gm)) (.string n) true).run Tryz.prog w = .ok (match askS n l 0 with | some x => .tuple #[x.2, .bool true] | none => .tuple #[.nilIface, .bool false]) w := by
    simp only [Instr.lookup, Sem.run_bind, run_underlying Tryz.underlying166, MapKept.run_getObj_map h1, Result.andThen, Sem.run_pure, hc, MapKept.run_findKey Tryz.underlying9 hf]
    cases askS n l 0 with
    | none => simp [hz, Result.andThen]
    | some j => simp
  obtain ⟨m1, m2⟩ := h2.look (n := n) 0
  refine ⟨fun r hr => ?_, fun hn => ?_⟩
  · obtain ⟨p, v, e1, e2⟩ := m1 r hr
    rw [e1] at key
    exact ⟨v, e2, key⟩
  · rw [m2 hn] at key
    exact key
/-- the names that were bound, the innermost first. -/
def CH (w : World) (R : TR → Value → Prop) : List Bd → Value → Prop
  | [], v => v = .pointer none
  | b :: bs, v => ∃ q tv nx, v = .pointer (some ⟨q, 0, none⟩) ∧ w.heap[q]? = some (.cells #[.string b.name, tv, .bool b.par, nx] 287 (0, 0)) ∧ R b.ty tv ∧ CH w R bs nx
theorem CH.keep {w w' : World} {R : TR → Value → Prop} (hk : ∀ (q : Nat) (cs : Array Value) (f : Nat × Nat), w.heap[q]? = some (.cells cs 287 f) → w'.heap[q]? = some (.cells cs 287 f)) : ∀ {l : List Bd} {v : Value}, CH w R l v → CH w' R l v
  | [], _, h => h
  | b :: bs, v, ⟨q, tv, nx, h1, h2, h3, h4⟩ => ⟨q, tv, nx, h1, hk _ _ _ h2, h3, CH.keep hk h4⟩
theorem CH.mono {w : World} {R R' : TR → Value → Prop} (hR : ∀ r v, R r v → R' r v) : ∀ {l : List Bd} {v : Value}, CH w R l v → CH w R' l v
  | [], _, h => h
  | b :: bs, v, ⟨q, tv, nx, h1, h2, h3, h4⟩ => ⟨q, tv, nx, h1, h2, hR _ _ h3, CH.mono hR h4⟩
theorem Kt.binds {w w' : World} {ad : List Nat} {S : Nat → Prop} (h : Kt ad S w w') {g : Nat} {cs : Array Value} {f : Nat × Nat} (hg : w.heap[g]? = some (.cells cs 287 f)) (hn : ¬ S g) : w'.heap[g]? = some (.cells cs 287 f) := h.blk g _ hg hn (by
  rintro ⟨cs', e, f', he, ht⟩
  simp only [Obj.cells.injEq] at he
  obtain ⟨_, rfl, _⟩ := he
  rcases ht with e | e | e | e <;> cases e)
theorem CH.ptr {w : World} {R : TR → Value → Prop} {l : List Bd} {v : Value} (h : CH w R l v) : ∃ p, v = .pointer p := by
  cases l with
  | nil => exact ⟨none, h⟩
  | cons b l => obtain ⟨q, tv, nx, h1, _⟩ := h; exact ⟨_, h1⟩
set_option maxRecDepth 20000 in
set_option maxHeartbeats 1000000 in
theorem withp_any (w : World) (p : Option Addr) (gm : Nat) (n : ByteArray) (T : TypeId) (u : Value) : Calls Tryz.prog 143 #[.agg #[.pointer p, .map (some gm)], .string n, .iface T u] w fun e w' => ∃ q, e = .returned (.agg #[.pointer (some ⟨q, 0, none⟩), .map (some gm)]) ∧ w'.heap[q]? = some (.cells #[.string n, .iface T u, .bool true, .pointer p] 287 (0, 0)) ∧ Kept w w' := by
  go_enter Tryz.func143, Tryz.ntmps143
  go_wp2_with fail
  generalize hW : w.alloc (.cells #[.pointer p, .map (some gm)] 168) = W
  have hk1 : Kept w W := by rw [← hW]; exact Kept.alloc _ _
  have hs1 : W.heap.size = w.heap.size + 1 := by rw [← hW]; simp
  generalize hV : W.alloc (.cells #[.pointer (some ⟨w.heap.size + 1 + 1, 0, none⟩), .map (some gm)] 168) = V
  have hk2 : Kept W V := by rw [← hV]; exact Kept.alloc _ _
  have hb2 : V.heap[w.heap.size + 1]? = some (.cells #[.pointer (some ⟨w.heap.size + 1 + 1, 0, none⟩), .map (some gm)] 168 (0, 0)) := by rw [← hV, ← hs1]; exact heap_alloc_new _ _
  have hs2 : V.heap.size = w.heap.size + 1 + 1 := by rw [← hV, ← hs1]; simp
  have hk3 : Kept V (V.alloc (.cells #[.string n, .iface T u, .bool true, .pointer p] 287)) := Kept.alloc _ _
  have hb3 := heap_alloc_new V (.cells #[.string n, .iface T u, .bool true, .pointer p] 287)
  rw [hs2] at hb3
  have hb2 := hk3.blk hb2
  generalize V.alloc (.cells #[.string n, .iface T u, .bool true, .pointer p] 287) = Z at *
  have d0 : Z.cell? ⟨w.heap.size + 1, 0, none⟩ = some (.pointer (some ⟨w.heap.size + 1 + 1, 0, none⟩)) := by simp [World.cell?, hb2]
  have d1 : Z.cell? ⟨w.heap.size + 1, 1, none⟩ = some (.map (some gm)) := by simp [World.cell?, hb2]
  exact bodyPost_ret (v := .agg #[.pointer (some ⟨w.heap.size + 1 + 1, 0, none⟩), .map (some gm)]) (by simp [results, Tryz.results143, go_sem, d0, d1]) rfl ⟨_, rfl, hb3, (hk1.trans hk2).trans hk3⟩
set_option maxRecDepth 20000 in
set_option maxHeartbeats 1000000 in
theorem with_any (w : World) (p : Option Addr) (gm : Nat) (n : ByteArray) (T : TypeId) (u : Value) : Calls Tryz.prog 104 #[.agg #[.pointer p, .map (some gm)], .string n, .iface T u] w fun e w' => ∃ q, e = .returned (.agg #[.pointer (some ⟨q, 0, none⟩), .map (some gm)]) ∧ w'.heap[q]? = some (.cells #[.string n, .iface T u, .bool false, .pointer p] 287 (0, 0)) ∧ Kept w w' := by
  go_enter Tryz.func104, Tryz.ntmps104
  go_wp2_with fail
  generalize hW : w.alloc (.cells #[.pointer p, .map (some gm)] 168) = W
  have hk1 : Kept w W := by rw [← hW]; exact Kept.alloc _ _
  have hs1 : W.heap.size = w.heap.size + 1 := by rw [← hW]; simp
  generalize hV : W.alloc (.cells #[.pointer (some ⟨w.heap.size + 1 + 1, 0, none⟩), .map (some gm)] 168) = V
  have hk2 : Kept W V := by rw [← hV]; exact Kept.alloc _ _
  have hb2 : V.heap[w.heap.size + 1]? = some (.cells #[.pointer (some ⟨w.heap.size + 1 + 1, 0, none⟩), .map (some gm)] 168 (0, 0)) := by rw [← hV, ← hs1]; exact heap_alloc_new _ _
  have hs2 : V.heap.size = w.heap.size + 1 + 1 := by rw [← hV, ← hs1]; simp
  have hk3 : Kept V (V.alloc (.cells #[.string n, .iface T u, .bool false, .pointer p] 287)) := Kept.alloc _ _
  have hb3 := heap_alloc_new V (.cells #[.string n, .iface T u, .bool false, .pointer p] 287)
  rw [hs2] at hb3
  have hb2 := hk3.blk hb2
  generalize V.alloc (.cells #[.string n, .iface T u, .bool false, .pointer p] 287) = Z at *
  have d0 : Z.cell? ⟨w.heap.size + 1, 0, none⟩ = some (.pointer (some ⟨w.heap.size + 1 + 1, 0, none⟩)) := by simp [World.cell?, hb2]
  have d1 : Z.cell? ⟨w.heap.size + 1, 1, none⟩ = some (.map (some gm)) := by simp [World.cell?, hb2]
  exact bodyPost_ret (v := .agg #[.pointer (some ⟨w.heap.size + 1 + 1, 0, none⟩), .map (some gm)]) (by simp [results, Tryz.results104, go_sem, d0, d1]) rfl ⟨_, rfl, hb3, (hk1.trans hk2).trans hk3⟩
theorem tl_beq (a b : ByteArray) : (a.toList == b.toList) = bq b a := by
  rw [ByteArray.toList_eq, ByteArray.toList_eq, Bool.eq_iff_iff, bq_iff, beq_iff_eq]
  exact ⟨fun h => (ByteArray.ext (Array.toList_inj.1 h)).symm, fun h => by rw [h]⟩
def findO (n : ByteArray) : List Bd → Option TR
  | [] => none
  | b :: l => if bq n b.name then some b.ty else findO n l
theorem findF_own (n : ByteArray) (gv : Gv) : ∀ l, findF n gv l = match findO n l with | some r => some r | none => findG n gv
  | [] => rfl
  | b :: l => by
    simp only [findF, findO]
    split
    · rfl
    · exact findF_own n gv l
set_option maxRecDepth 20000 in
set_option maxHeartbeats 2000000 in
theorem find_own {w : World} {R : TR → Value → Prop} {own : List Bd} {p : Option Addr} {gm : Nat} {n : ByteArray} {x y : Value} (hC : CH w R own (.pointer p)) (hL : ∀ W, Kept w W → (Instr.lookup 166 (.map (some gm)) (.string n) true).run Tryz.prog W = .ok (.tuple #[x, y]) W) :
    Calls Tryz.prog 103 #[.agg #[.pointer p, .map (some gm)], .string n] w fun e w' => Kept w w' ∧ (∀ r, findO n own = some r → ∃ v, e = .returned (.tuple #[v, .bool true]) ∧ R r v) ∧ (findO n own = none → e = .returned (.tuple #[x, y])) := by
  have hka : Kept w (w.alloc (.cells #[.pointer p, .map (some gm)] 168)) := Kept.alloc _ _
  have hn0 := heap_alloc_new w (.cells #[.pointer p, .map (some gm)] 168)
  go_enter Tryz.func103, Tryz.ntmps103
  go_wp2_with fail
  generalize w.alloc (.cells #[.pointer p, .map (some gm)] 168) = W at *
  have HC : Hid (CH W R own (.pointer p)) := hC.keep (fun q cs f h => hka.blk h)
  have hl := hL _ hka
  have hn1 : W.cell? ⟨w.heap.size, 1, none⟩ = some (.map (some gm)) := by simp [World.cell?, hn0]
  have HKA : Hid _ := hka
  clear hC hL hka hn0
  go_loopg [6] own.length (fun k v wr => ∃ (l : List Bd) (pp : Option Addr), l.length = k ∧ v = .pointer pp ∧ wr = W ∧ Hid (CH W R l (.pointer pp)) ∧ Hid (findO n l = findO n own))
  case atStart => exact ⟨own, p, rfl, rfl, rfl, HC.out, rfl⟩
  case round =>
    obtain ⟨l, pp, hlen, rfl, hw, HL, HE⟩ := hrel
    rw [hw]
    clear hw
    cases l with
    | nil =>
      have hv : Value.pointer pp = _ := HL.out
      simp only [Value.pointer.injEq] at hv
      subst hv
      have hf : findO n own = none := by rw [← HE.out]; rfl
      have HF : Hid _ := hf
      clear HL HE HC hf
      go_wp2
      refine bodyPost_ret (results_tmp2 Tryz.results103 _ _ _) rfl ?_
      refine ⟨HKA.out, fun r hr => ?_, fun _ => rfl⟩
      rw [HF.out] at hr
      cases hr
    | cons b l =>
      obtain ⟨q, tv, nx, hv, hb, hR, hC2⟩ := HL.out
      simp only [Value.pointer.injEq] at hv
      subst hv
      have c0 : W.cell? ⟨q, 0, none⟩ = some (.string b.name) := by simp [World.cell?, hb]
      have c1 : W.cell? ⟨q, 1, none⟩ = some tv := by simp [World.cell?, hb]
      have c3 : W.cell? ⟨q, 3, none⟩ = some nx := by simp [World.cell?, hb]
      have HR : Hid _ := hR
      have HC2 : Hid _ := hC2
      obtain ⟨pn, rfl⟩ := hC2.ptr
      clear hb hR hC2 HL HC
      have hlen2 : l.length < gk := by simp at hlen; omega
      clear hlen
      cases hq : bq n b.name with
      | true =>
        have hf : findO n own = some b.ty := by
          rw [← HE.out]
          simp [findO, hq]
        have HF : Hid _ := hf
        have hs := tl_beq b.name n
        rw [hq] at hs
        clear HE hf hq
        go_wp2
        refine bodyPost_ret (results_tmp2 Tryz.results103 _ _ _) rfl ?_
        refine ⟨HKA.out, fun r hr => ?_, fun z => by rw [HF.out] at z; cases z⟩
        rw [HF.out] at hr
        simp only [Option.some.injEq] at hr
        subst hr
        exact ⟨tv, rfl, HR.out⟩
      | false =>
        have hf : findO n l = findO n own := by
          rw [← HE.out]
          simp [findO, hq]
        have HF : Hid _ := hf
        have hs := tl_beq b.name n
        rw [hq] at hs
        clear HE hf hq
        go_wp2
        go_roundg l.length
        case measure => exact hlen2
        case rel => exact ⟨l, pn, rfl, rfl, rfl, HC2.out, HF.out⟩
set_option maxRecDepth 20000 in
set_option maxHeartbeats 2000000 in
theorem bound_sx {w : World} {ad : List Nat} {σ : St} {own : List Bd} {p : Option Addr} {gm : Nat} {bd : List TR} (hB : boundF σ own [] = some bd) (hs : SX w ad σ) (hC : CH w (RV ad) own (.pointer p)) :
    Calls Tryz.prog 145 #[.agg #[.pointer p, .map (some gm)]] w fun e w' => ∃ mb, e = .returned (.map (some mb)) ∧ TMp w' mb ad (pvP bd) ∧ SX w' ad σ ∧ w.heap.size ≤ mb ∧ Kt ad (fun _ => False) w w' := by
  have m1 := Tryz.mkPS (w.alloc (.cells #[.pointer p, .map (some gm)] 168))
  have hka : Kept w (w.alloc (.cells #[.pointer p, .map (some gm)] 168)) := Kept.alloc _ _
  have hsz : (w.alloc (.cells #[.pointer p, .map (some gm)] 168)).heap.size = w.heap.size + 1 := by simp
  go_enter Tryz.func145, Tryz.ntmps145
  go_wp2_with fail
  generalize w.alloc (.cells #[.pointer p, .map (some gm)] 168) = W at *
  have hkb : Kept w (W.alloc (.map #[] 0)) := hka.trans (Kept.alloc _ _)
  have HT : Hid _ := TMp.none W ad
  rw [hsz] at HT
  generalize W.alloc (.map #[] 0) = V at *
  have HC : Hid (CH V (RV ad) own (.pointer p)) := hC.keep (fun q cs f h => hkb.blk h)
  have HS : Hid _ := hs.kept hkb
  have HK : Hid _ := hkb
  have HB : Hid _ := hB
  clear hC hs hka hkb m1 hsz hB
  go_loopg [4] own.length (fun k v wr => ∃ (l : List Bd) (pp : Option Addr) (bl : List TR), l.length = k ∧ v = .pointer pp ∧ Hid (CH wr (RV ad) l (.pointer pp)) ∧ Hid (boundF σ l bl = some bd) ∧ Hid (TMp wr (w.heap.size + 1) ad (pvP bl)) ∧ Hid (SX wr ad σ) ∧ Hid (Kt ad (fun q => q = w.heap.size + 1) w wr))
  case atStart => exact ⟨own, p, [], rfl, rfl, HC.out, HB.out, HT.out, HS.out, Kt.of_kept HK.out⟩
  case round =>
    clear HC HB HT HS HK
    obtain ⟨l, pp, bl, hlen, rfl, HC, HB, HT, HS, HK⟩ := hrel
    cases l with
    | nil =>
      have hv : Value.pointer pp = _ := HC.out
      simp only [Value.pointer.injEq] at hv
      subst hv
      have hb := HB.out
      simp only [boundF, Option.some.injEq] at hb
      subst hb
      clear HB HC
      go_wp2
      go_ret
      exact ⟨_, rfl, HT.out, HS.out, by omega, Kt.drop (Kept.refl w) HK.out (by omega)⟩
    | cons b l =>
      obtain ⟨q, tv, nx, hv, hb, hR, hC2⟩ := HC.out
      simp only [Value.pointer.injEq] at hv
      subst hv
      have c1 : wr.cell? ⟨q, 1, none⟩ = some tv := by simp [World.cell?, hb]
      have c2 : wr.cell? ⟨q, 2, none⟩ = some (.bool b.par) := by simp [World.cell?, hb]
      have HR : Hid _ := hR
      have HC2 : Hid _ := hC2
      obtain ⟨pn, rfl⟩ := hC2.ptr
      have hlen2 : l.length < gk := by simp at hlen; omega
      have HBK : Hid _ := hb
      have hbb := HB.out
      simp only [boundF] at hbb
      obtain ⟨T, u, rfl⟩ := hR.iface
      clear hR hC2 hlen HC HB
      cases hp : b.par with
      | true =>
        rw [hp] at hbb c2
        simp only [if_true, Option.bind_eq_some_iff] at hbb
        obtain ⟨l1, h1, h2⟩ := hbb
        have HA : Hid _ := add_sx 500 σ b.ty bl l1 h1 wr ad _ (w.heap.size + 1) HS.out HR.out HT.out
        have HB2 : Hid _ := h2
        have HTM : Hid _ := HT.out.mp
        have HQ : Hid (¬ q = w.heap.size + 1) := fun z => by
          have := HTM.out
          rw [← z, HBK.out] at this
          cases this
        clear hb h1 h2 hp HT
        go_wp2_with fail
        refine Calls.mono HA.out ?_
        rintro e w2 ⟨rfl, hs2, ht2, hk2⟩
        have hb2 := hk2.binds HBK.out HQ.out
        have c3 : w2.cell? ⟨q, 3, none⟩ = some (.pointer pn) := by simp [World.cell?, hb2]
        have HCC : Hid (CH w2 (RV ad) l (.pointer pn)) := CH.keep (fun q' cs f h => hk2.binds h (fun z => by
          have z : q' = w.heap.size + 1 := z
          have := HTM.out
          rw [← z, h] at this
          cases this)) HC2.out
        have HS2 : Hid _ := hs2
        have HT2 : Hid _ := ht2
        have HK2 : Hid _ := HK.out.trans hk2
        clear hs2 ht2 hk2 hb2 HA
        go_wp2
        go_roundg l.length
        case measure => exact hlen2
        case rel => exact ⟨l, pn, l1, rfl, rfl, HCC.out, HB2.out, HT2.out, HS2.out, HK2.out⟩
      | false =>
        rw [hp] at hbb c2
        have c3 : wr.cell? ⟨q, 3, none⟩ = some (.pointer pn) := by simp [World.cell?, hb]
        simp only [Bool.false_eq_true, if_false] at hbb
        have HB2 : Hid _ := hbb
        clear hb hbb hp
        go_wp2
        go_roundg l.length
        case measure => exact hlen2
        case rel => exact ⟨l, pn, bl, rfl, rfl, HC2.out, HB2.out, HT.out, HS.out, HK.out⟩
end Go.Proofs.YtleenphlgbklmabGreatDoor
