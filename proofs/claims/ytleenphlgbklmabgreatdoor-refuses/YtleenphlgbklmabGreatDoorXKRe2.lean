import Derived.Test.YtleenphlgbklmabGreatDoorXKRb
import Derived.Test.YtleenphlgbklmabGreatDoorXPEv
set_option linter.unusedVariables false
set_option linter.unusedSimpArgs false
namespace Go.Proofs.YtleenphlgbklmabGreatDoor
open Go.RowKit

/-- what the law asks of a text, and the contracts of what it calls. -/
structure FltC (A : Nat → Addr) (s : ByteArray) (ex ty : Int) (t1 t2 : ByteArray) (w1 l1 w2 l2 : Int) : Prop where
  sh : ∀ w, Glb A w → Calls Tryz.prog 15 #[.string s] w fun e w' => e = .returned (.tuple #[.string t1, faultVal w1 l1 { data := #[] }]) ∧ Kept w w'
  ca : ∀ w, Glb A w → Calls Tryz.prog 8 #[.string s] w fun e w' => e = .returned (.tuple #[.string t2, faultVal w2 l2 { data := #[] }]) ∧ Kept w w'
  a1 : ∀ w, Calls Tryz.prog 19 #[faultVal w1 l1 { data := #[] }, .int .i64 ex, .string t1] w fun e w' => e = .returned (.bool true) ∧ Kept w w'
  a2 : ∀ w, Calls Tryz.prog 19 #[faultVal w2 l2 { data := #[] }, .int .i64 ty, .string t2] w fun e w' => e = .returned (.bool true) ∧ Kept w w'
theorem flt_at {A : Nat → Addr} {l : Flt} (h : fltOk l = true) : ∃ t1 t2 w1 l1 w2 l2, FltC A l.1 l.2.1 l.2.2 t1 t2 w1 l1 w2 l2 := by
  unfold fltOk at h
  simp only [Bool.and_eq_true, decide_eq_true_eq] at h
  obtain ⟨⟨h1, h2⟩, h3⟩ := h
  cases hs : showO l.1 with
  | none => rw [hs] at h1; cases h1
  | some q =>
    obtain ⟨t, what, loc⟩ := q
    rw [hs] at h1
    exact ⟨t, _, what, loc, _, _, fun w hG => plshow_at hs w hG, fun w hG => (rn_all w hG).c l.1 w (by omega) (Kept.refl w), fun w => wrong_sx h1 w, fun w => wrong_sx h2 w⟩
set_option maxRecDepth 20000 in
set_option maxHeartbeats 4000000 in
theorem ref_low {A : Nat → Addr} (c : Int) (j : Nat) (hj : j < 55) (w : World) (hG : Glb A w) (HP : Hid (∀ W, Calls Tryz.prog 11 #[.int .i64 c, .int .i64 63] W fun e w' => e = .returned (.int .i64 j) ∧ w' = W)) : Calls Tryz.prog 7 #[.int .i64 c] w fun e w' => e = .returned (.bool true) ∧ Kept w w' := by
  have hjl : j < fltL.length := hj
  obtain ⟨t1, t2, wh1, l1, wh2, l2, hL⟩ := flt_at (A := A) (List.all_eq_true.1 flt_all fltL[j] (List.getElem_mem hjl))
  have hk1 : Kept w (w.alloc (.cells fltC 51)) := Kept.alloc _ _
  have hcell := fun i hi => flt_cell (heap_alloc_new w (.cells fltC 51)) hjl i hi
  have HLS : Hid (Calls Tryz.prog 18 #[] w fun e w' => e = .returned (.slice (some ⟨w.heap.size, 0, none⟩) 55 55) ∧ w' = w.alloc (.cells fltC 51)) := faults_sx w
  generalize w.alloc (.cells fltC 51) = W at *
  generalize fltL[j] = l at *
  obtain ⟨src, ex, ty⟩ := l
  have c0 : W.cell? ⟨w.heap.size, j * 3, none⟩ = some (.string src) := by rw [Nat.mul_comm j 3]; exact hcell 0 (by omega)
  have c1 : W.cell? ⟨w.heap.size, j * 3 + 1, none⟩ = some (.int .i64 ex) := by rw [Nat.mul_comm j 3]; exact hcell 1 (by omega)
  have c2 : W.cell? ⟨w.heap.size, j * 3 + 2, none⟩ = some (.int .i64 ty) := by rw [Nat.mul_comm j 3]; exact hcell 2 (by omega)
  have HL : Hid _ := hL
  have HG : Hid _ := hG.kept hk1
  clear hcell hG hL
  go_enter Tryz.func7, Tryz.ntmps7
  go_wp2_with fail
  refine Calls.mono HLS.out ?_
  rintro e w1 ⟨rfl, hww⟩
  rw [hww]
  clear hww w1 HLS
  go_wp2_with fail
  refine Calls.mono (HP.out _) ?_
  rintro e w1 ⟨rfl, hww⟩
  rw [hww]
  clear hww w1 HP
  go_wp2_with fail
  have hk2 : Kept W (W.alloc (.cells #[.string src, .int .i64 ex, .int .i64 ty] 51)) := Kept.alloc _ _
  have hb2 := heap_alloc_new W (.cells #[.string src, .int .i64 ex, .int .i64 ty] 51)
  generalize W.alloc (.cells #[.string src, .int .i64 ex, .int .i64 ty] 51) = V at *
  have hk12 := hk1.trans hk2
  have HG2 : Hid _ := HG.out.kept hk2
  clear c0 c1 c2 HG hk1 hk2
  generalize W.heap.size = xb at *
  refine Calls.mono (HL.out.sh V HG2.out) ?_
  rintro e w2 ⟨rfl, hk2⟩
  have HG3 : Hid _ := HG2.out.kept hk2
  have HB3 : Hid _ := hk2.blk hb2
  have HK3 : Hid _ := hk12.trans hk2
  have c0 : w2.cell? ⟨xb, 0, none⟩ = some (.string src) := cell_of HB3.out rfl
  clear hb2 hk12 HG2 hk2
  unfold faultVal
  have hk4 : Kept w2 (w2.alloc (.cells #[.int .i64 wh1, .int .i64 l1, .string { data := #[] }, .int .i64 0, .int .i64 0] 23)) := Kept.alloc _ _
  have hb4 := heap_alloc_new w2 (.cells #[.int .i64 wh1, .int .i64 l1, .string { data := #[] }, .int .i64 0, .int .i64 0] 23)
  have c0' := hk4.cell c0
  go_wp2_with fail
  generalize w2.alloc (.cells #[.int .i64 wh1, .int .i64 l1, .string { data := #[] }, .int .i64 0, .int .i64 0] 23) = w3 at *
  have HG4 : Hid _ := HG3.out.kept hk4
  have HB4 : Hid _ := hk4.blk HB3.out
  have HK4 : Hid _ := HK3.out.trans hk4
  generalize w2.heap.size = fb at *
  have HF4 : Hid _ := hb4
  clear c0 c0' hk4 hb4 HG3 HB3 HK3
  refine Calls.mono (HL.out.ca w3 HG4.out) ?_
  rintro e w4 ⟨rfl, hk5⟩
  have hb5 := hk5.blk HB4.out
  have hf5 := hk5.blk HF4.out
  have hK5 := HK4.out.trans hk5
  clear hk5 HB4 HF4 HK4 HG4
  unfold faultVal
  have hk6 : Kept w4 (w4.alloc (.cells #[.int .i64 wh2, .int .i64 l2, .string { data := #[] }, .int .i64 0, .int .i64 0] 23)) := Kept.alloc _ _
  have hb6 := heap_alloc_new w4 (.cells #[.int .i64 wh2, .int .i64 l2, .string { data := #[] }, .int .i64 0, .int .i64 0] 23)
  have hx6 := hk6.blk hb5
  have hf6 := hk6.blk hf5
  have HK6 : Hid _ := hK5.trans hk6
  clear hk6 hK5 hb5 hf5
  have f0 : (w4.alloc (.cells #[.int .i64 wh2, .int .i64 l2, .string { data := #[] }, .int .i64 0, .int .i64 0] 23)).cell? ⟨fb, 0, none⟩ = some (.int .i64 wh1) := cell_of hf6 rfl
  have f1 : (w4.alloc (.cells #[.int .i64 wh2, .int .i64 l2, .string { data := #[] }, .int .i64 0, .int .i64 0] 23)).cell? ⟨fb, 1, none⟩ = some (.int .i64 l1) := cell_of hf6 rfl
  have f2 : (w4.alloc (.cells #[.int .i64 wh2, .int .i64 l2, .string { data := #[] }, .int .i64 0, .int .i64 0] 23)).cell? ⟨fb, 2, none⟩ = some (.string { data := #[] }) := cell_of hf6 rfl
  have f3 : (w4.alloc (.cells #[.int .i64 wh2, .int .i64 l2, .string { data := #[] }, .int .i64 0, .int .i64 0] 23)).cell? ⟨fb, 3, none⟩ = some (.int .i64 0) := cell_of hf6 rfl
  have f4 : (w4.alloc (.cells #[.int .i64 wh2, .int .i64 l2, .string { data := #[] }, .int .i64 0, .int .i64 0] 23)).cell? ⟨fb, 4, none⟩ = some (.int .i64 0) := cell_of hf6 rfl
  have x1 : (w4.alloc (.cells #[.int .i64 wh2, .int .i64 l2, .string { data := #[] }, .int .i64 0, .int .i64 0] 23)).cell? ⟨xb, 1, none⟩ = some (.int .i64 ex) := cell_of hx6 rfl
  go_wp2_with fail
  generalize (w4.alloc (.cells #[.int .i64 wh2, .int .i64 l2, .string { data := #[] }, .int .i64 0, .int .i64 0] 23)) = Z at *
  generalize w4.heap.size = gb at *
  have HW1 : Hid _ := HL.out.a1
  have HW2 : Hid _ := HL.out.a2
  unfold faultVal at HW1 HW2
  refine Calls.mono (HW1.out Z) ?_
  rintro e w5 ⟨rfl, hk7⟩
  have hb7 := hk7.blk hb6
  have hx7 := hk7.blk hx6
  have HK7 : Hid _ := HK6.out.trans hk7
  have g0 : w5.cell? ⟨gb, 0, none⟩ = some (.int .i64 wh2) := cell_of hb7 rfl
  have g1 : w5.cell? ⟨gb, 1, none⟩ = some (.int .i64 l2) := cell_of hb7 rfl
  have g2 : w5.cell? ⟨gb, 2, none⟩ = some (.string { data := #[] }) := cell_of hb7 rfl
  have g3 : w5.cell? ⟨gb, 3, none⟩ = some (.int .i64 0) := cell_of hb7 rfl
  have g4 : w5.cell? ⟨gb, 4, none⟩ = some (.int .i64 0) := cell_of hb7 rfl
  have x2 : w5.cell? ⟨xb, 2, none⟩ = some (.int .i64 ty) := cell_of hx7 rfl
  clear f0 f1 f2 f3 f4 x1 hb6 hx6 hf6 HK6 hk7 hb7 hx7 HW1 HL
  go_wp2_with fail
  refine Calls.mono (HW2.out w5) ?_
  rintro e w6 ⟨rfl, hk8⟩
  have HK8 : Hid _ := HK7.out.trans hk8
  clear hk8 HW2 g0 g1 g2 g3 g4 x2
  go_wp2
  go_ret
  exact ⟨rfl, HK8.out⟩
end Go.Proofs.YtleenphlgbklmabGreatDoor

namespace Go.Proofs.YtleenphlgbklmabGreatDoor
open Go.RowKit

section
variable {ω : Type} {A : Nat → Addr} {B : Nat} {K : World → ω → Prop} {fuel : Nat} {wv : Value}
set_option maxRecDepth 20000 in
set_option maxHeartbeats 4000000 in
theorem typ_num (hK : KOk K) {w : World} {ad : List Nat} {σ : St} {own : List Bd} {gv : Gv} {p : Option Addr} {gm eb : Nat} {o : ω} (hT : TI A B K w ad σ own gv p gm o) (hbig : bigF σ .int = some false) :
    Calls Tryz.prog 73 #[.agg #[.int .i64 fuel, wv], .iface 259 (.pointer (some ⟨eb, 0, none⟩)), .agg #[.pointer p, .map (some gm)]] w fun e w' => TyO A B K ad w e w' o (.ok (.int, σ)) := by
  have hk0 : Kept w ((w.alloc (.cells #[.int .i64 fuel, wv] 103)).alloc (.cells #[.pointer p, .map (some gm)] 168)) := (Kept.alloc _ _).trans (Kept.alloc _ _)
  have HC : Hid _ := fun (W : World) (hk : Kept w W) => k_num (p := p) (gm := gm) (w := W) (ad := ad) (fl := fuel) (wv := wv) (eb := eb) hK (hT.kept hK hk)
  have HT : Hid _ := hT
  clear hT
  go_enter Tryz.func73, Tryz.ntmps73
  go_wp2_with fail
  refine Calls.mono (HC.out _ hk0) ?_
  intro e w2 hE
  have hE := TyO.pre (Gk.ofKt (B := B) (Kt.of_kept (ad := ad) hk0)) hE
  obtain ⟨v2, ad2, rfl, hv2, hs2, hw2, hk2, hg2⟩ := hE
  have HR : Hid _ := rbig_sx hbig w2 ad2 v2 (hg2.ga HT.out.ga) hs2 hv2
  have HV : Hid _ := hv2
  have HW : Hid _ := hw2
  have HKW : Hid _ := hk2
  have HG : Hid _ := hg2
  obtain ⟨T2, u2, rfl⟩ := hv2.iface
  clear hbig hv2 hw2 hk2 hg2 hs2 hk0 HC
  go_wp2_with fail
  refine Calls.mono HR.out ?_
  rintro e w3 (⟨hf, he, hk3⟩ | ⟨_, rfl, hs3, hk3⟩)
  · cases hf
  · have HF : Hid (TyO A B K ad w (.returned (.iface T2 u2)) w3 o (.ok (.int, σ))) := ⟨_, ad2, rfl, HV.out, hs3, HW.out, hK _ _ _ _ HKW.out hk3, HG.out.trans (Gk.ofKt hk3)⟩
    clear hs3 hk3 HR
    go_wp2
    go_ret
    exact HF.out
end
set_option maxRecDepth 20000 in
set_option maxHeartbeats 4000000 in
theorem tot_num {A : Nat → Addr} {fl : Nat} {s m : ByteArray} {em loc : Nat} (w : World) (hG : Glb A w) (hS : SM w em []) (h1 : 1 ≤ fl) (h2 : fl ≤ 12) (hx : exO s = some (.mk { data := #[110, 117, 109] } [m] [] loc)) (hbig : bigF [] .int = some false) :
    Calls Tryz.prog 45 #[.agg #[.int .i64 fl, .nilFunc], .string s, .map (some em)] w fun e w' => Kept w w' ∧ TtO A w e w' none (.ok (.int, [])) := by
  have hk1 : Kept w (((w.alloc (.cells #[.int .i64 fl, .nilFunc] 103)).alloc (.cells #[.nilIface] 77)).alloc (.cells #[.nilIface] 56)) := ((Kept.alloc _ _).trans (Kept.alloc _ _)).trans (Kept.alloc _ _)
  have e1 : (w.alloc (.cells #[.int .i64 fl, .nilFunc] 103)).heap.size = w.heap.size + 1 := by simp
  have e2 : ((w.alloc (.cells #[.int .i64 fl, .nilFunc] 103)).alloc (.cells #[.nilIface] 77)).heap.size = w.heap.size + 1 + 1 := by simp
  have hb0 : (((w.alloc (.cells #[.int .i64 fl, .nilFunc] 103)).alloc (.cells #[.nilIface] 77)).alloc (.cells #[.nilIface] 56)).heap[w.heap.size]? = some (.cells #[.int .i64 fl, .nilFunc] 103 (0, 0)) := ((Kept.alloc _ _).trans (Kept.alloc _ _)).blk (heap_alloc_new _ _)
  have hb1 : (((w.alloc (.cells #[.int .i64 fl, .nilFunc] 103)).alloc (.cells #[.nilIface] 77)).alloc (.cells #[.nilIface] 56)).heap[w.heap.size + 1]? = some (.cells #[.nilIface] 77 (0, 0)) := by
    rw [← e1]
    exact (Kept.alloc _ _).blk (heap_alloc_new _ _)
  have hb2 : (((w.alloc (.cells #[.int .i64 fl, .nilFunc] 103)).alloc (.cells #[.nilIface] 77)).alloc (.cells #[.nilIface] 56)).heap[w.heap.size + 1 + 1]? = some (.cells #[.nilIface] 56 (0, 0)) := by
    rw [← e2]
    exact heap_alloc_new _ _
  clear e1 e2
  go_enter_defers Tryz.func45, Tryz.ntmps45
  go_wp2_with fail
  generalize ((w.alloc (.cells #[.int .i64 fl, .nilFunc] 103)).alloc (.cells #[.nilIface] 77)).alloc (.cells #[.nilIface] 56) = W at *
  have HP : Hid _ := ex_good hx W (hG.kept hk1)
  refine Calls.mono HP.out ?_
  rintro e w1 ⟨hkp, T, u, rfl, hpx⟩
  obtain ⟨eb, rfl, rfl⟩ : ∃ eb : Nat, T = 259 ∧ u = .pointer (some ⟨eb, 0, none⟩) := by
    cases hpx with
    | num m loc b _ _ _ => exact ⟨b, rfl, rfl⟩
  have c0 := hkp.blk hb0
  have c1 := hkp.blk hb1
  have c2 := hkp.blk hb2
  have d0 : w1.cell? ⟨w.heap.size, 0, none⟩ = some (.int .i64 fl) := by simp [World.cell?, c0]
  have d2 : w1.cell? ⟨w.heap.size + 1 + 1, 0, none⟩ = some .nilIface := by simp [World.cell?, c2]
  have f2 : w1.frozen? ⟨w.heap.size + 1 + 1, 0, none⟩ = false := by simp [World.frozen?, c2]
  have HW1 : Hid _ := hk1.trans hkp
  clear HP hkp hpx hb0 hb1 hb2 hk1
  go_wp2_with fail
  have hk2 := Kept.again c2
  generalize w1.setCell ⟨w.heap.size + 1 + 1, 0, none⟩ .nilIface = w2 at *
  have hkw2 := HW1.out.trans hk2
  have c0 := hk2.blk c0
  have c1 := hk2.blk c1
  have c2 := hk2.blk c2
  have HGS : Hid _ := given_sx (kv := []) (kvs := []) (gv := []) (σ := []) (hG.kept hkw2) ⟨hkw2.blk hS.mp, hS.nd⟩ (by simp) (fun y hy => by simp at hy) (List.Perm.refl _) (by simp) rfl
  have HGL : Hid _ := hG
  have HBG : Hid _ := hbig
  have HW2 : Hid _ := hkw2
  clear hkw2 hk2 HW1 hG hS hbig d0 d2 f2 hx
  refine Calls.mono HGS.out ?_
  rintro e w3 ⟨gm, ad, rfl, hs3, har, hgm, had, hk3⟩
  have c0 := hk3.blk c0
  have c1 := hk3.blk c1
  have c2 := hk3.blk c2
  have hka : Kept w3 (w3.alloc (.cells #[.pointer none, .map (some gm)] 168)) := Kept.alloc _ _
  have hnb := heap_alloc_new w3 (.cells #[.pointer none, .map (some gm)] 168)
  have c0 := hka.blk c0
  have c1 := hka.blk c1
  have c2 := hka.blk c2
  have d2 : (w3.alloc (.cells #[.pointer none, .map (some gm)] 168)).cell? ⟨w.heap.size + 1 + 1, 0, none⟩ = some .nilIface := by rw [World.cell?]; simp only [c2]; rfl
  have f2 : (w3.alloc (.cells #[.pointer none, .map (some gm)] 168)).frozen? ⟨w.heap.size + 1 + 1, 0, none⟩ = false := by rw [World.frozen?]; simp only [c2]; rfl
  have HNB : Hid _ := hnb
  have HS3 : Hid _ := hs3
  have HAR : Hid _ := har
  have HGM : Hid _ := hgm
  have HAD : Hid _ := had
  have HK3 : Hid _ := hk3
  have HKA : Hid _ := hka
  have HC0 : Hid _ := c0
  have HC1 : Hid _ := c1
  have HC2 : Hid _ := c2
  have hk4 := Kept.again HC2.out
  have cn := hk4.blk HNB.out
  have n0 : ((w3.alloc (.cells #[.pointer none, .map (some gm)] 168)).setCell ⟨w.heap.size + 1 + 1, 0, none⟩ .nilIface).cell? ⟨w3.heap.size, 0, none⟩ = some (.pointer none) := by rw [World.cell?]; simp only [cn]; rfl
  have n1 : ((w3.alloc (.cells #[.pointer none, .map (some gm)] 168)).setCell ⟨w.heap.size + 1 + 1, 0, none⟩ .nilIface).cell? ⟨w3.heap.size, 1, none⟩ = some (.map (some gm)) := by rw [World.cell?]; simp only [cn]; rfl
  have HK4 : Hid _ := hk4
  clear HGS hs3 har hgm had hk3 hka hnb c0 c1 c2 hk4 cn
  go_wp2_with fail
  have hk4 := HK4.out
  clear HK4
  generalize (w3.alloc (.cells #[.pointer none, .map (some gm)] 168)).setCell ⟨w.heap.size + 1 + 1, 0, none⟩ .nilIface = w4 at *
  have hk34 := HKA.out.trans hk4
  have c0 := hk4.blk HC0.out
  have c1 := hk4.blk HC1.out
  have c2 := hk4.blk HC2.out
  have cn := hk4.blk HNB.out
  have hkw4 := (HW2.out.trans HK3.out).trans hk34
  have hci : CI w4 ad [] [] none gm := ⟨rfl, GM.kt HGM.out (Kt.of_kept (ad := ad) (S := fun _ => False) hk34) id⟩
  have HCH : Hid _ := c_num (w := w4) (p := none) (gm := gm) (eb := eb)
  have HKW4 : Hid _ := hkw4
  have HK34 : Hid _ := hk34
  have HCI : Hid _ := hci
  have HC0' : Hid _ := c0
  have HC1' : Hid _ := c1
  have HC2' : Hid _ := c2
  have HCN : Hid _ := cn
  clear HNB HC0 HC1 HC2 d2 f2 hkw4 hk34 hci hk4 HKA c0 c1 c2 cn HGM
  refine Calls.mono HCH.out ?_
  intro e w5 hE
  rcases hE.split with ⟨q, b, hq, _⟩ | ⟨_, rfl, hk5⟩
  · cases hq
  · have c0 := hk5.blk HC0'.out
    have c1 := hk5.blk HC1'.out
    have c2 := hk5.blk HC2'.out
    have cn := hk5.blk HCN.out
    have d0 : w5.cell? ⟨w.heap.size, 0, none⟩ = some (.int .i64 fl) := by simp [World.cell?, c0]
    have d1 : w5.cell? ⟨w.heap.size, 1, none⟩ = some .nilFunc := by simp [World.cell?, c0]
    have n0' : w5.cell? ⟨w3.heap.size, 0, none⟩ = some (.pointer none) := by simp [World.cell?, cn]
    have n1' : w5.cell? ⟨w3.heap.size, 1, none⟩ = some (.map (some gm)) := by simp [World.cell?, cn]
    have hkw5 := HKW4.out.trans hk5
    have hk35 := HK34.out.trans hk5
    have hga := (GA.start HGL.out).kept hkw5
    have had : ∀ a, a ∈ ad → w.heap.size ≤ a := fun a ha => Nat.le_trans HW2.out.size (HAD.out a ha)
    have hTI : TI A w.heap.size KN w5 ad [] [] [] none gm () := ⟨SX.kept HS3.out hk35, AR.ws HAR.out, ⟨hga.glb, had, hga.sz, hga.ab, hga.gb⟩, rfl, (HCI.out.kept hk5).gm, trivial⟩
    have HT : Hid _ := typ_num (eb := eb) (fuel := fl) (wv := .nilFunc) KN.ok hTI HBG.out
    have HC1 : Hid _ := c1
    have HC2 : Hid _ := c2
    have HKW5 : Hid _ := hkw5
    have HAD5 : Hid _ := had
    clear c0 c1 c2 cn hkw5 hk35 hga had hTI hk5 HCH HBG HGL HS3 HAR HCI hE
    go_wp2_with fail
    refine Calls.mono HT.out ?_
    intro e w6 hE
    obtain ⟨v6, ad6, rfl, hv6, hs6, hw6, _, hg6⟩ := hE
    obtain ⟨T6, u6, rfl⟩ := hv6.iface
    have g1 := hg6.oth (by decide) HC1.out
    have g2 := hg6.oth (by decide) HC2.out
    have hKF := Kw.keptBy HKW5.out hg6.kw HAD5.out
    have had6 : ∀ a, a ∈ ad6 → w.heap.size ≤ a := fun a ha => by
      obtain ⟨⟨uu, rfl, hu⟩, _⟩ := hg6
      simp at ha
      rcases ha with ha | ha
      · exact HAD5.out a ha
      · exact Nat.le_trans HKW5.out.size (hu a ha)
    have e1 : w6.cell? ⟨w.heap.size + 1, 0, none⟩ = some .nilIface := by simp [World.cell?, g1]
    have e2 : w6.frozen? ⟨w.heap.size + 1, 0, none⟩ = false := by simp [World.frozen?, g1]
    have ho : ∀ k, k ≠ w.heap.size + 1 → (w6.setCell ⟨w.heap.size + 1, 0, none⟩ (.iface T6 u6)).heap[k]? = w6.heap[k]? := fun k hk => Below.heap_setCell _ _ _ k (fun z => hk z)
    have g1' : (w6.setCell ⟨w.heap.size + 1, 0, none⟩ (.iface T6 u6)).heap[w.heap.size + 1]? = some (.cells #[.iface T6 u6] 77 (0, 0)) := by simp [World.setCell, g1, Array.getElem?_modify]
    have g2' := (ho (w.heap.size + 1 + 1) (by omega)).trans g2
    have e3 : (w6.setCell ⟨w.heap.size + 1, 0, none⟩ (.iface T6 u6)).cell? ⟨w.heap.size + 1 + 1, 0, none⟩ = some .nilIface := by rw [World.cell?]; simp only [g2']; rfl
    have e4 : (w6.setCell ⟨w.heap.size + 1, 0, none⟩ (.iface T6 u6)).frozen? ⟨w.heap.size + 1 + 1, 0, none⟩ = false := by rw [World.frozen?]; simp only [g2']; rfl
    have hka := Kept.again g2'
    have hb1 : ¬ w.heap.size + 1 ∈ ad6 := fun z => by
      obtain ⟨τ, s1, _⟩ := hs6
      obtain ⟨oo, h8, cs', ee, ff, rfl, ht⟩ := s1.tb z
      rw [g1] at h8
      simp only [Option.some.injEq, Obj.cells.injEq] at h8
      obtain ⟨_, rfl, _⟩ := h8
      rcases ht with e | e | e | e <;> cases e
    have hs7 : SX (w6.setCell ⟨w.heap.size + 1, 0, none⟩ (.iface T6 u6)) ad6 [] := hs6.keep (fun b oo hb hbo => (ho b (fun z => hb1 (z ▸ hb))).trans hbo)
    have hK7 : Kept w (w6.setCell ⟨w.heap.size + 1, 0, none⟩ (.iface T6 u6)) := ⟨hKF.os, hKF.output, by simpa using hKF.size, fun k hk => (ho k (by omega)).trans (hKF.block k hk)⟩
    have HF : Hid (Kept w ((w6.setCell ⟨w.heap.size + 1, 0, none⟩ (.iface T6 u6)).setCell ⟨w.heap.size + 1 + 1, 0, none⟩ .nilIface) ∧ TtO A w (.returned (.tuple #[.iface T6 u6, .nilIface])) ((w6.setCell ⟨w.heap.size + 1, 0, none⟩ (.iface T6 u6)).setCell ⟨w.heap.size + 1 + 1, 0, none⟩ .nilIface) none (.ok (.int, []))) := ⟨hK7.trans hka, T6, u6, ad6, rfl, hv6, hs7.kept hka, had6⟩
    have x1 := hka.blk g1'
    have x2 := hka.blk g2'
    have cp : ((w6.setCell ⟨w.heap.size + 1, 0, none⟩ (.iface T6 u6)).setCell ⟨w.heap.size + 1 + 1, 0, none⟩ .nilIface).cell? ⟨w.heap.size + 1, 0, none⟩ = some (.iface T6 u6) := by rw [World.cell?]; simp only [x1]; rfl
    have cq : ((w6.setCell ⟨w.heap.size + 1, 0, none⟩ (.iface T6 u6)).setCell ⟨w.heap.size + 1 + 1, 0, none⟩ .nilIface).cell? ⟨w.heap.size + 1 + 1, 0, none⟩ = some .nilIface := by rw [World.cell?]; simp only [x2]; rfl
    clear hs7 hK7 hka hb1 had6 hKF g1 g2 g1' g2' ho x1 x2 hv6 hs6 hw6 hg6 HT
    go_wp2_with fail
    refine leaves_cons (f := 70) (args := #[.pointer (some ⟨w.heap.size + 1, 0, none⟩), .pointer (some ⟨w.heap.size + 1 + 1, 0, none⟩)]) (by simp) (by simp [go_sem]) ?_
    refine (catchY_idle ⟨w.heap.size + 1, 0, none⟩ ⟨w.heap.size + 1 + 1, 0, none⟩ _).mono ?_
    rintro e u' w'' ⟨rfl, rfl, rfl⟩
    simp [Leaves, settle, results, Tryz.results45, go_sem, cp, cq]
    exact HF.out
end Go.Proofs.YtleenphlgbklmabGreatDoor

namespace Go.Proofs.YtleenphlgbklmabGreatDoor
open Go.RowKit

/-- so many x. -/
def lx (k : Nat) : ByteArray := ⟨(List.replicate k 120).toArray⟩
theorem lx_size (k : Nat) : (lx k).size = k := by
  show (List.replicate k 120).toArray.size = _
  simp
theorem lx_snoc (k : Nat) : lx (k + 1) = lx k ++ { data := #[120] } := by
  apply ByteArray.ext
  rw [ByteArray.data_append]
  show (List.replicate (k + 1) 120).toArray = (List.replicate k 120).toArray ++ #[120]
  apply Array.toList_inj.1
  rw [List.replicate_succ', Array.toList_append]
theorem inf_nil {w : World} {s t ss : ByteArray} {fl what loc fi fj : Int} (HI : HiE w [] s fl t (faultV5 what loc ss fi fj)) :
    Calls Tryz.prog 20 #[.string s, .slice none 0 0, .slice none 0 0, .int .i64 fl] w fun e w' => e = .returned (.tuple #[.string t, faultV5 what loc ss fi fj, .bool false]) ∧ Kept w w' :=
  pl_infer5 (kv := []) ⟨none, 0, 0, rfl, fun q x hx => by simp at hx⟩ ⟨none, 0, 0, rfl, fun q x hx => by simp at hx⟩ List.nodup_nil (by simp) HI
theorem hi_num {A : Nat → Addr} {w : World} (hG : Glb A w) {s m : ByteArray} {loc fl : Nat} (h1 : 1 ≤ fl) (h2 : fl ≤ 12) (hx : exO s = some (.mk { data := #[110, 117, 109] } [m] [] loc)) : HiE w [] s fl (canT (.mk { data := #[105, 110, 116] } 0 [])) (faultV5 0 0 { data := #[] } 0 0) := by
  intro W em hk hS
  have HT := tot_num W (hG.kept hk) hS h1 h2 hx (by kernel_rfl)
  refine (infer_del s em fl W (fun v w' => Kept W w' ∧ v = .tuple #[.string (canT (.mk { data := #[105, 110, 116] } 0 [])), .nilIface]) ((watch_ok s em fl W (.mk { data := #[105, 110, 116] } 0 []) (by decide) (HT.mono (fun e w' hE => ?_))).mono ?_)).mono ?_
  · obtain ⟨hk, T, u, ad, rfl, hv, hs, ha⟩ := hE
    exact ⟨_, ad, [], .int, rfl, hs, hv, treeF_dn 3 rfl, ha, hk⟩
  · rintro e w' ⟨rfl, hk⟩
    exact ⟨_, _, rfl, hk, rfl⟩
  · rintro e w' ⟨v, rfl, hk', rfl⟩
    exact ⟨hk', .nilIface, rfl, .inl rfl, fun w2 hk2 => (fault_nil w2).mono (fun e w'' ⟨a1, a2⟩ => ⟨a1, Kept.below a2⟩)⟩
theorem ex_1 : exO { data := #[49] } = some (.mk { data := #[110, 117, 109] } [{ data := #[49] }] [] 0) := by kernel_rfl
theorem ex_x : exO { data := #[120] } = some (.mk { data := #[110, 97, 109, 101] } [{ data := #[120] }] [] 0) := by kernel_rfl
theorem ex_y : exO { data := #[121] } = some (.mk { data := #[110, 97, 109, 101] } [{ data := #[121] }] [] 0) := by kernel_rfl
theorem inst_at {A : Nat → Addr} {s z : ByteArray} {n : Nat} {b : Bool} {iw il : Int} (h : insO (rdO s) (rdO z) = (n, b, iw, il)) (w : World) (hG : Glb A w) (hs : s.size ≤ 1000000) (hz : z.size ≤ 1000000) :
    Calls Tryz.prog 9 #[.string s, .string z] w fun e w' => ∃ la lc ta tc, e = .returned (.tuple #[.slice la n lc, .slice ta n tc, .bool b, faultVal iw il { data := #[] }]) ∧ Kept w w' ∧ Hid (RIO (rdO s) (rdO z) la ta w') := by
  have := (rn_all w hG).i s z w (by omega) (by omega) (Kept.refl w)
  simp only [h] at this
  exact this
/-- two names, and what is put for them. -/
theorem two_rows2 {w : World} {la ta : Option Addr} {ks tx nm sh : Nat → ByteArray} {P Q x y : ByteArray} (hn0 : nm 0 = P) (hn1 : nm 1 = Q) (hd : P ≠ Q) (hb : Op.bytesLess Q.toList P.toList = false) (r1 : SRow w la 2 ks) (r2 : SRow w ta 2 tx) (hP : InP 2 ks tx nm sh) (h0 : sh 0 = x) (h1 : sh 1 = y) :
    ∃ g g', la = some ⟨g, 0, none⟩ ∧ ta = some ⟨g', 0, none⟩ ∧ w.cell? ⟨g, 0, none⟩ = some (.string P) ∧ w.cell? ⟨g, 1, none⟩ = some (.string Q) ∧ w.cell? ⟨g', 0, none⟩ = some (.string x) ∧ w.cell? ⟨g', 1, none⟩ = some (.string y) := by
  obtain ⟨p1, p2, p3⟩ := hP
  obtain ⟨g, r1⟩ := r1
  obtain ⟨g', r2⟩ := r2
  obtain ⟨q0, hq0, e0⟩ := p3 0 (by omega)
  obtain ⟨q1, hq1, e1⟩ := p3 1 (by omega)
  rw [hn0] at e0
  rw [hn1] at e1
  have hlt := p2 0 (by omega)
  have k0 : ks 0 = P ∧ ks 1 = Q := by
    have c0 : q0 = 0 ∨ q0 = 1 := by omega
    have c1 : q1 = 0 ∨ q1 = 1 := by omega
    rcases c0 with rfl | rfl <;> rcases c1 with rfl | rfl
    · exact absurd (e0.symm.trans e1) hd
    · exact ⟨e0, e1⟩
    · simp only [Nat.zero_add] at hlt
      rw [e1, e0, hb] at hlt
      cases hlt
    · exact absurd (e0.symm.trans e1) hd
  have t0 := p1 0 0 (by omega) (by omega) (by rw [hn0]; exact k0.1)
  have t1 := p1 1 1 (by omega) (by omega) (by rw [hn1]; exact k0.2)
  obtain ⟨l1, l2⟩ := r1 0 (by omega)
  obtain ⟨m1, m2⟩ := r2 0 (by omega)
  have l3 := (r1 1 (by omega)).2
  have m3 := (r2 1 (by omega)).2
  rw [k0.1] at l2
  rw [k0.2] at l3
  rw [t0, h0] at m2
  rw [t1, h1] at m3
  exact ⟨g, g', l1, m1, l2, l3, m2, m3⟩
def gT : RdO → Ty
  | .good t _ => t
  | .bad _ _ => .mk { data := #[] } 0 []
def gN : RdO → List ByteArray
  | .good _ n => n
  | .bad _ _ => []
def isG : RdO → Bool
  | .good _ _ => true
  | .bad _ _ => false
theorem rio_good {r z : RdO} {la ta : Option Addr} {w : World} (hr : isG r = true) (hz : isG z = true) (hM : (matM (gT r) (gT z) (List.replicate (gN r).length none)).2 = true) (h : Hid (RIO r z la ta w)) : ∃ ks tx, SRow w la (gN r).length ks ∧ SRow w ta (gN r).length tx ∧ InP (gN r).length ks tx (fun k => (gN r).getD k { data := #[] }) (fun k => match (matM (gT r) (gT z) (List.replicate (gN r).length none)).1.getD k none with | some t => shT (gN z) t | none => { data := #[] }) := by
  cases r with
  | bad a b => cases hr
  | good t n =>
    cases z with
    | bad a b => cases hz
    | good t2 n2 => exact h.out hM
/-- what is put for the k-th name. -/
def putS (r z : RdO) (k : Nat) : ByteArray := match (matM (gT r) (gT z) (List.replicate (gN r).length none)).1.getD k none with | some t => shT (gN z) t | none => { data := #[] }
theorem inst_two {A : Nat → Addr} {s z P Q x y : ByteArray} (g1 : isG (rdO s) = true) (g2 : isG (rdO z) = true) (g3 : (matM (gT (rdO s)) (gT (rdO z)) (List.replicate (gN (rdO s)).length none)).2 = true) (hl : (gN (rdO s)).length = 2) (n0 : (gN (rdO s)).getD 0 { data := #[] } = P) (n1 : (gN (rdO s)).getD 1 { data := #[] } = Q) (s0 : putS (rdO s) (rdO z) 0 = x) (s1 : putS (rdO s) (rdO z) 1 = y) (hd : P ≠ Q) (hb : Op.bytesLess Q.toList P.toList = false) (hi : insO (rdO s) (rdO z) = (2, false, 0, 0)) (w : World) (hG : Glb A w) (hs : s.size ≤ 1000000) (hz : z.size ≤ 1000000) :
    Calls Tryz.prog 9 #[.string s, .string z] w fun e w' => ∃ g lc g' tc, e = .returned (.tuple #[.slice (some ⟨g, 0, none⟩) 2 lc, .slice (some ⟨g', 0, none⟩) 2 tc, .bool false, faultVal 0 0 { data := #[] }]) ∧ Kept w w' ∧ w'.cell? ⟨g, 0, none⟩ = some (.string P) ∧ w'.cell? ⟨g, 1, none⟩ = some (.string Q) ∧ w'.cell? ⟨g', 0, none⟩ = some (.string x) ∧ w'.cell? ⟨g', 1, none⟩ = some (.string y) := by
  refine (inst_at hi w hG hs hz).mono ?_
  rintro e w' ⟨la, lc, ta, tc, rfl, hk, HR⟩
  obtain ⟨ks, tx, r1, r2, hP⟩ := rio_good g1 g2 g3 HR
  rw [hl] at r1 r2
  have hP' : InP 2 ks tx (fun k => (gN (rdO s)).getD k { data := #[] }) (putS (rdO s) (rdO z)) := by
    have e : InP 2 = InP (gN (rdO s)).length := by rw [hl]
    rw [e]
    exact hP
  obtain ⟨g, g', rfl, rfl, m0, m1, t0, t1⟩ := two_rows2 n0 n1 hd hb r1 r2 hP' s0 s1
  exact ⟨g, lc, g', tc, rfl, hk, m0, m1, t0, t1⟩
theorem rowS_new {w : World} {b m : Nat} {ca : Array Value} {l : List ByteArray} (hb : w.heap[b]? = some (.cells ca 9 (0, 0))) (hc : ca = (l.map Value.string).toArray) (hm : l.length = m) : RowS w (.slice (some ⟨b, 0, none⟩) m m) l := by
  subst hm
  refine ⟨some ⟨b, 0, none⟩, _, b, rfl, fun q x hx => ⟨rfl, _, hb, ?_⟩⟩
  rw [hc, List.getElem?_toArray, List.getElem?_map, hx]
  rfl
theorem inf_rows {w : World} {s t ss : ByteArray} {fl what loc fi fj : Int} (kv : List (ByteArray × ByteArray)) {ca cb : Array Value} {m : Nat} (hm : kv.length = m) (hl : m ≤ 1000) (hd : (kv.map Prod.fst).Nodup) (ha : ca = ((kv.map Prod.fst).map Value.string).toArray) (hb : cb = ((kv.map Prod.snd).map Value.string).toArray) (HI : ∀ W, Kept w W → HiE W kv s fl t (faultV5 what loc ss fi fj)) :
    Calls Tryz.prog 20 #[.string s, .slice (some ⟨w.heap.size, 0, none⟩) m m, .slice (some ⟨w.heap.size + 1, 0, none⟩) m m, .int .i64 fl] ((w.alloc (.cells ca 9)).alloc (.cells cb 9)) fun e w' => e = .returned (.tuple #[.string t, faultV5 what loc ss fi fj, .bool false]) ∧ Kept w w' := by
  have h1 := heap_alloc_new w (.cells ca 9)
  have h2 := heap_alloc_new (w.alloc (.cells ca 9)) (.cells cb 9)
  have hz : (w.alloc (.cells ca 9)).heap.size = w.heap.size + 1 := by simp
  rw [hz] at h2
  have hk := (Kept.alloc w (.cells ca 9)).trans (Kept.alloc (w.alloc (.cells ca 9)) (.cells cb 9))
  refine (pl_infer5 (kv := kv) (rowS_new ((Kept.alloc _ _).blk h1) ha (by simpa using hm)) (rowS_new h2 hb (by simpa using hm)) hd (by omega) (HI _ hk)).mono ?_
  rintro e w' ⟨he, hk'⟩
  exact ⟨he, hk.trans hk'⟩
theorem rd_bad2 {ty : ByteArray} {l : Int} (h : rdO ty = .bad 2 l) : ty.size ≤ 300 ∧ 0 ≤ l ∧ ∃ t names K B, arrowM (lexT ty) (2 * (lexT ty).length + 2) [] 0 (-1) = some (t, names, K, B) ∧ needB (lexT ty) { data := #[101, 110, 100] } K B = l := by
  unfold rdO at h
  by_cases hs : 300 < ty.size
  · rw [if_pos hs] at h
    simp at h
  · rw [if_neg hs] at h
    refine ⟨by omega, ?_⟩
    cases hM : arrowM (lexT ty) (2 * (lexT ty).length + 2) [] 0 (-1) with
    | none => rw [hM] at h; simp at h
    | some q =>
      obtain ⟨t, names, K, B⟩ := q
      rw [hM] at h
      simp only at h
      split at h
      · rename_i hF
        simp only [RdO.bad.injEq, true_and] at h
        exact ⟨by omega, t, names, K, B, rfl, h⟩
      · split at h
        · simp at h
        · cases h
def kvB : List (ByteArray × ByteArray) := [({ data := #[120] }, { data := #[105, 110, 116] }), ({ data := #[98] }, { data := #[40] }), ({ data := #[99] }, { data := #[41] })]
theorem hi_two {A : Nat → Addr} {w : World} (hG : Glb A w) : HiE w kvB { data := #[121] } 1 { data := #[] } (faultV5 5 0 { data := #[98] } 2 1) := by
  obtain ⟨hs, _, t, names, K, B, hM, hB⟩ := rd_bad2 (ty := { data := #[40] }) (l := 1) (by kernel_rfl)
  have hp : ([({ data := #[98] }, { data := #[40] }), ({ data := #[99] }, { data := #[41] }), ({ data := #[120] }, { data := #[105, 110, 116] })] : List (ByteArray × ByteArray)).Perm kvB := by
    have h : @List.isPerm _ instBEqOfDecidableEq ([({ data := #[98] }, { data := #[40] }), ({ data := #[99] }, { data := #[41] }), ({ data := #[120] }, { data := #[105, 110, 116] })] : List (ByteArray × ByteArray)) kvB = true := by kernel_rfl
    exact (@List.isPerm_iff _ instBEqOfDecidableEq _ _ _).1 h
  exact hi_env_syn (l := 1) (fl := 1) hG ex_y (by omega) (by omega) (by decide) (by decide +kernel) hp (by decide +kernel) (by kernel_rfl) hs hM hB
theorem hi_three {A : Nat → Addr} {w : World} (hG : Glb A w) : HiE w [({ data := #[108, 101, 116] }, { data := #[105, 110, 116] })] { data := #[121] } 1 { data := #[] } (faultV5 5 0 { data := #[108, 101, 116] } 0 0) :=
  hi_env_nil (fl := 1) hG ex_y (by omega) (by omega) (by decide) (by decide +kernel) (List.Perm.refl _) (by decide +kernel) (by kernel_rfl)
theorem hi_four {A : Nat → Addr} {w : World} {L : ByteArray} (hL : L.size = 301) (hG : Glb A w) : HiE w [({ data := #[120] }, L)] { data := #[121] } 1 { data := #[] } (faultV5 5 0 { data := #[120] } 1 0) :=
  hi_env_long (fl := 1) hG ex_y (by omega) (by omega) (by simp) (fun y hy => by simp at hy; rw [hy]; show (1 : Nat) ≤ 1000; omega) (List.Perm.refl _) (by simp) (by kernel_rfl) (by omega) (by omega)
end Go.Proofs.YtleenphlgbklmabGreatDoor

namespace Go.Proofs.YtleenphlgbklmabGreatDoor
open Go.RowKit

set_option maxRecDepth 20000 in
set_option maxHeartbeats 4000000 in
theorem ref_0 {A : Nat → Addr} (c : Int) (w : World) (hG : Glb A w) (HP : Hid (∀ W, Calls Tryz.prog 11 #[.int .i64 c, .int .i64 63] W fun e w' => e = .returned (.int .i64 55) ∧ w' = W)) : Calls Tryz.prog 7 #[.int .i64 c] w fun e w' => e = .returned (.bool true) ∧ Kept w w' := by
  have hk1 : Kept w (w.alloc (.cells fltC 51)) := Kept.alloc _ _
  have HLS : Hid (Calls Tryz.prog 18 #[] w fun e w' => e = .returned (.slice (some ⟨w.heap.size, 0, none⟩) 55 55) ∧ w' = w.alloc (.cells fltC 51)) := faults_sx w
  generalize w.alloc (.cells fltC 51) = W at *
  have HK0 : Hid _ := hk1
  have HG0 : Hid _ := hG.kept hk1
  clear hk1 hG
  go_enter Tryz.func7, Tryz.ntmps7
  go_wp2_with fail
  refine Calls.mono HLS.out ?_
  rintro e w1 ⟨rfl, hww⟩
  rw [hww]
  clear hww w1 HLS
  go_wp2_with fail
  refine Calls.mono (HP.out _) ?_
  rintro e w1 ⟨rfl, hww⟩
  rw [hww]
  clear hww w1 HP
  go_wp2_with fail
  go_loopw [9] (fun s wr => ∃ k : Nat, k ≤ 301 ∧ s = .string (lx k) ∧ wr = W) (fun s _ => 301 - strN s)
  case atStart => exact ⟨0, by omega, rfl, rfl⟩
  case round =>
    obtain ⟨k, hk, rfl, hw⟩ := hrel
    rw [hw]
    clear hw
    have hz := lx_size k
    by_cases hlt : k ≤ 300
    · have HE : Hid _ := lx_snoc k
      have hz2 := lx_size (k + 1)
      clear HK0 HG0
      go_wp2
      go_roundw
      case measure =>
        rw [← HE.out]
        simp only [strN, hz, hz2]
        omega
      case rel => exact ⟨k + 1, by omega, by rw [HE.out], trivial⟩
    · obtain rfl : k = 301 := by omega
      generalize lx 301 = L at *
      go_wp2_with fail
      refine Calls.mono (plshow_long L W HG0.out (by omega) (by omega)) ?_
      rintro e u0x ⟨rfl, hkc⟩
      have hk0a : Kept u0x (u0x.alloc (.cells #[.int .i64 1, .int .i64 0, .string { data := #[] }, .int .i64 0, .int .i64 0] 23)) := Kept.alloc _ _
      have hb0a := heap_alloc_new u0x (.cells #[.int .i64 1, .int .i64 0, .string { data := #[] }, .int .i64 0, .int .i64 0] 23)
      have HK1 : Hid _ := (HK0.out.trans hkc).trans hk0a
      have HG1 : Hid _ := (HG0.out.kept hkc).kept hk0a
      have HB0_0v : Hid _ := hb0a
      clear hkc hk0a hb0a HK0 HG0 
      try unfold faultVal
      try unfold faultV5
      go_wp2_with fail
      generalize (u0x.alloc (.cells #[.int .i64 1, .int .i64 0, .string { data := #[] }, .int .i64 0, .int .i64 0] 23)) = V0 at *
      generalize u0x.heap.size = fb0 at *
      refine Calls.mono (plcanon_long L V0 HG1.out (by omega) (by omega)) ?_
      rintro e u1x ⟨rfl, hkc⟩
      have HB0_1 : Hid _ := hkc.blk HB0_0v.out
      have hk1a : Kept u1x (u1x.alloc (.cells #[.int .i64 1, .int .i64 0, .string { data := #[] }, .int .i64 0, .int .i64 0] 23)) := Kept.alloc _ _
      have hb1a := heap_alloc_new u1x (.cells #[.int .i64 1, .int .i64 0, .string { data := #[] }, .int .i64 0, .int .i64 0] 23)
      have HK2 : Hid _ := (HK1.out.trans hkc).trans hk1a
      have HG2 : Hid _ := (HG1.out.kept hkc).kept hk1a
      have HB0_1v : Hid _ := hk1a.blk HB0_1.out
      have HB1_1v : Hid _ := hb1a
      clear hkc hk1a hb1a HK1 HG1 HB0_1 HB0_0v
      try unfold faultVal
      try unfold faultV5
      go_wp2_with fail
      generalize (u1x.alloc (.cells #[.int .i64 1, .int .i64 0, .string { data := #[] }, .int .i64 0, .int .i64 0] 23)) = V1 at *
      generalize u1x.heap.size = fb1 at *
      refine Calls.mono (inf_nil (hi_long HG2.out (fl := 0) (s := L) (by omega) (by omega))) ?_
      rintro e u2x ⟨rfl, hkc⟩
      have HB0_2 : Hid _ := hkc.blk HB0_1v.out
      have HB1_2 : Hid _ := hkc.blk HB1_1v.out
      have hk2a : Kept u2x (u2x.alloc (.cells #[.int .i64 1, .int .i64 0, .string { data := #[] }, .int .i64 0, .int .i64 0] 23)) := Kept.alloc _ _
      have hb2a := heap_alloc_new u2x (.cells #[.int .i64 1, .int .i64 0, .string { data := #[] }, .int .i64 0, .int .i64 0] 23)
      have HK3 : Hid _ := (HK2.out.trans hkc).trans hk2a
      have HG3 : Hid _ := (HG2.out.kept hkc).kept hk2a
      have HB0_2v : Hid _ := hk2a.blk HB0_2.out
      have HB1_2v : Hid _ := hk2a.blk HB1_2.out
      have HB2_2v : Hid _ := hb2a
      clear hkc hk2a hb2a HK2 HG2 HB0_2 HB0_1v HB1_2 HB1_1v
      try unfold faultVal
      try unfold faultV5
      have c0_0 : (u2x.alloc (.cells #[.int .i64 1, .int .i64 0, .string { data := #[] }, .int .i64 0, .int .i64 0] 23)).cell? ⟨fb0, 0, none⟩ = some (.int .i64 1) := cell_of HB0_2v.out rfl
      have c0_1 : (u2x.alloc (.cells #[.int .i64 1, .int .i64 0, .string { data := #[] }, .int .i64 0, .int .i64 0] 23)).cell? ⟨fb0, 1, none⟩ = some (.int .i64 0) := cell_of HB0_2v.out rfl
      have c0_2 : (u2x.alloc (.cells #[.int .i64 1, .int .i64 0, .string { data := #[] }, .int .i64 0, .int .i64 0] 23)).cell? ⟨fb0, 2, none⟩ = some (.string { data := #[] }) := cell_of HB0_2v.out rfl
      have c0_3 : (u2x.alloc (.cells #[.int .i64 1, .int .i64 0, .string { data := #[] }, .int .i64 0, .int .i64 0] 23)).cell? ⟨fb0, 3, none⟩ = some (.int .i64 0) := cell_of HB0_2v.out rfl
      have c0_4 : (u2x.alloc (.cells #[.int .i64 1, .int .i64 0, .string { data := #[] }, .int .i64 0, .int .i64 0] 23)).cell? ⟨fb0, 4, none⟩ = some (.int .i64 0) := cell_of HB0_2v.out rfl
      have c1_0 : (u2x.alloc (.cells #[.int .i64 1, .int .i64 0, .string { data := #[] }, .int .i64 0, .int .i64 0] 23)).cell? ⟨fb1, 0, none⟩ = some (.int .i64 1) := cell_of HB1_2v.out rfl
      have c1_1 : (u2x.alloc (.cells #[.int .i64 1, .int .i64 0, .string { data := #[] }, .int .i64 0, .int .i64 0] 23)).cell? ⟨fb1, 1, none⟩ = some (.int .i64 0) := cell_of HB1_2v.out rfl
      have c1_2 : (u2x.alloc (.cells #[.int .i64 1, .int .i64 0, .string { data := #[] }, .int .i64 0, .int .i64 0] 23)).cell? ⟨fb1, 2, none⟩ = some (.string { data := #[] }) := cell_of HB1_2v.out rfl
      have c1_3 : (u2x.alloc (.cells #[.int .i64 1, .int .i64 0, .string { data := #[] }, .int .i64 0, .int .i64 0] 23)).cell? ⟨fb1, 3, none⟩ = some (.int .i64 0) := cell_of HB1_2v.out rfl
      have c1_4 : (u2x.alloc (.cells #[.int .i64 1, .int .i64 0, .string { data := #[] }, .int .i64 0, .int .i64 0] 23)).cell? ⟨fb1, 4, none⟩ = some (.int .i64 0) := cell_of HB1_2v.out rfl
      have c2_0 : (u2x.alloc (.cells #[.int .i64 1, .int .i64 0, .string { data := #[] }, .int .i64 0, .int .i64 0] 23)).cell? ⟨u2x.heap.size, 0, none⟩ = some (.int .i64 1) := cell_of HB2_2v.out rfl
      have c2_1 : (u2x.alloc (.cells #[.int .i64 1, .int .i64 0, .string { data := #[] }, .int .i64 0, .int .i64 0] 23)).cell? ⟨u2x.heap.size, 1, none⟩ = some (.int .i64 0) := cell_of HB2_2v.out rfl
      have c2_2 : (u2x.alloc (.cells #[.int .i64 1, .int .i64 0, .string { data := #[] }, .int .i64 0, .int .i64 0] 23)).cell? ⟨u2x.heap.size, 2, none⟩ = some (.string { data := #[] }) := cell_of HB2_2v.out rfl
      have c2_3 : (u2x.alloc (.cells #[.int .i64 1, .int .i64 0, .string { data := #[] }, .int .i64 0, .int .i64 0] 23)).cell? ⟨u2x.heap.size, 3, none⟩ = some (.int .i64 0) := cell_of HB2_2v.out rfl
      have c2_4 : (u2x.alloc (.cells #[.int .i64 1, .int .i64 0, .string { data := #[] }, .int .i64 0, .int .i64 0] 23)).cell? ⟨u2x.heap.size, 4, none⟩ = some (.int .i64 0) := cell_of HB2_2v.out rfl
      clear HB0_2v HB1_2v HB2_2v
      go_wp2_with fail
      go_ret
      exact ⟨rfl, HK3.out⟩
end Go.Proofs.YtleenphlgbklmabGreatDoor

namespace Go.Proofs.YtleenphlgbklmabGreatDoor
open Go.RowKit

set_option maxRecDepth 20000 in
set_option maxHeartbeats 4000000 in
theorem ref_1 {A : Nat → Addr} (c : Int) (w : World) (hG : Glb A w) (HP : Hid (∀ W, Calls Tryz.prog 11 #[.int .i64 c, .int .i64 63] W fun e w' => e = .returned (.int .i64 56) ∧ w' = W)) : Calls Tryz.prog 7 #[.int .i64 c] w fun e w' => e = .returned (.bool true) ∧ Kept w w' := by
  have hk1 : Kept w (w.alloc (.cells fltC 51)) := Kept.alloc _ _
  have HLS : Hid (Calls Tryz.prog 18 #[] w fun e w' => e = .returned (.slice (some ⟨w.heap.size, 0, none⟩) 55 55) ∧ w' = w.alloc (.cells fltC 51)) := faults_sx w
  generalize w.alloc (.cells fltC 51) = W at *
  have HK0 : Hid _ := hk1
  have HG0 : Hid _ := hG.kept hk1
  clear hk1 hG
  go_enter Tryz.func7, Tryz.ntmps7
  go_wp2_with fail
  refine Calls.mono HLS.out ?_
  rintro e w1 ⟨rfl, hww⟩
  rw [hww]
  clear hww w1 HLS
  go_wp2_with fail
  refine Calls.mono (HP.out _) ?_
  rintro e w1 ⟨rfl, hww⟩
  rw [hww]
  clear hww w1 HP
  go_wp2_with fail
  go_loopw [9] (fun s wr => ∃ k : Nat, k ≤ 301 ∧ s = .string (lx k) ∧ wr = W) (fun s _ => 301 - strN s)
  case atStart => exact ⟨0, by omega, rfl, rfl⟩
  case round =>
    obtain ⟨k, hk, rfl, hw⟩ := hrel
    rw [hw]
    clear hw
    have hz := lx_size k
    by_cases hlt : k ≤ 300
    · have HE : Hid _ := lx_snoc k
      have hz2 := lx_size (k + 1)
      clear HK0 HG0
      go_wp2
      go_roundw
      case measure =>
        rw [← HE.out]
        simp only [strN, hz, hz2]
        omega
      case rel => exact ⟨k + 1, by omega, by rw [HE.out], trivial⟩
    · obtain rfl : k = 301 := by omega
      generalize lx 301 = L at *
      go_wp2_with fail
      refine Calls.mono (inf_nil (hi_arg HG0.out (fl := 0) ex_x (by omega))) ?_
      rintro e u0x ⟨rfl, hkc⟩
      have hk0a : Kept u0x (u0x.alloc (.cells #[.int .i64 6, .int .i64 0, .string { data := #[] }, .int .i64 0, .int .i64 0] 23)) := Kept.alloc _ _
      have hb0a := heap_alloc_new u0x (.cells #[.int .i64 6, .int .i64 0, .string { data := #[] }, .int .i64 0, .int .i64 0] 23)
      have HK1 : Hid _ := (HK0.out.trans hkc).trans hk0a
      have HG1 : Hid _ := (HG0.out.kept hkc).kept hk0a
      have HB0_0v : Hid _ := hb0a
      clear hkc hk0a hb0a HK0 HG0 
      try unfold faultVal
      try unfold faultV5
      go_wp2_with fail
      generalize (u0x.alloc (.cells #[.int .i64 6, .int .i64 0, .string { data := #[] }, .int .i64 0, .int .i64 0] 23)) = V0 at *
      generalize u0x.heap.size = fb0 at *
      refine Calls.mono (inf_nil (hi_arg HG1.out (fl := 13) ex_x (by omega))) ?_
      rintro e u1x ⟨rfl, hkc⟩
      have HB0_1 : Hid _ := hkc.blk HB0_0v.out
      have hk1a : Kept u1x (u1x.alloc (.cells #[.int .i64 6, .int .i64 0, .string { data := #[] }, .int .i64 0, .int .i64 0] 23)) := Kept.alloc _ _
      have hb1a := heap_alloc_new u1x (.cells #[.int .i64 6, .int .i64 0, .string { data := #[] }, .int .i64 0, .int .i64 0] 23)
      have HK2 : Hid _ := (HK1.out.trans hkc).trans hk1a
      have HG2 : Hid _ := (HG1.out.kept hkc).kept hk1a
      have HB0_1v : Hid _ := hk1a.blk HB0_1.out
      have HB1_1v : Hid _ := hb1a
      clear hkc hk1a hb1a HK1 HG1 HB0_1 HB0_0v
      try unfold faultVal
      try unfold faultV5
      go_wp2_with fail
      generalize (u1x.alloc (.cells #[.int .i64 6, .int .i64 0, .string { data := #[] }, .int .i64 0, .int .i64 0] 23)) = V1 at *
      generalize u1x.heap.size = fb1 at *
      refine Calls.mono (inf_nil (hi_num HG2.out (fl := 12) (by omega) (by omega) ex_1)) ?_
      rintro e u2x ⟨rfl, hkc⟩
      have HB0_2 : Hid _ := hkc.blk HB0_1v.out
      have HB1_2 : Hid _ := hkc.blk HB1_1v.out
      have hk2a : Kept u2x (u2x.alloc (.cells #[.int .i64 0, .int .i64 0, .string { data := #[] }, .int .i64 0, .int .i64 0] 23)) := Kept.alloc _ _
      have hb2a := heap_alloc_new u2x (.cells #[.int .i64 0, .int .i64 0, .string { data := #[] }, .int .i64 0, .int .i64 0] 23)
      have HK3 : Hid _ := (HK2.out.trans hkc).trans hk2a
      have HG3 : Hid _ := (HG2.out.kept hkc).kept hk2a
      have HB0_2v : Hid _ := hk2a.blk HB0_2.out
      have HB1_2v : Hid _ := hk2a.blk HB1_2.out
      have HB2_2v : Hid _ := hb2a
      clear hkc hk2a hb2a HK2 HG2 HB0_2 HB0_1v HB1_2 HB1_1v
      try unfold faultVal
      try unfold faultV5
      have c0_0 : (u2x.alloc (.cells #[.int .i64 0, .int .i64 0, .string { data := #[] }, .int .i64 0, .int .i64 0] 23)).cell? ⟨fb0, 0, none⟩ = some (.int .i64 6) := cell_of HB0_2v.out rfl
      have c0_1 : (u2x.alloc (.cells #[.int .i64 0, .int .i64 0, .string { data := #[] }, .int .i64 0, .int .i64 0] 23)).cell? ⟨fb0, 1, none⟩ = some (.int .i64 0) := cell_of HB0_2v.out rfl
      have c0_2 : (u2x.alloc (.cells #[.int .i64 0, .int .i64 0, .string { data := #[] }, .int .i64 0, .int .i64 0] 23)).cell? ⟨fb0, 2, none⟩ = some (.string { data := #[] }) := cell_of HB0_2v.out rfl
      have c0_3 : (u2x.alloc (.cells #[.int .i64 0, .int .i64 0, .string { data := #[] }, .int .i64 0, .int .i64 0] 23)).cell? ⟨fb0, 3, none⟩ = some (.int .i64 0) := cell_of HB0_2v.out rfl
      have c0_4 : (u2x.alloc (.cells #[.int .i64 0, .int .i64 0, .string { data := #[] }, .int .i64 0, .int .i64 0] 23)).cell? ⟨fb0, 4, none⟩ = some (.int .i64 0) := cell_of HB0_2v.out rfl
      have c1_0 : (u2x.alloc (.cells #[.int .i64 0, .int .i64 0, .string { data := #[] }, .int .i64 0, .int .i64 0] 23)).cell? ⟨fb1, 0, none⟩ = some (.int .i64 6) := cell_of HB1_2v.out rfl
      have c1_1 : (u2x.alloc (.cells #[.int .i64 0, .int .i64 0, .string { data := #[] }, .int .i64 0, .int .i64 0] 23)).cell? ⟨fb1, 1, none⟩ = some (.int .i64 0) := cell_of HB1_2v.out rfl
      have c1_2 : (u2x.alloc (.cells #[.int .i64 0, .int .i64 0, .string { data := #[] }, .int .i64 0, .int .i64 0] 23)).cell? ⟨fb1, 2, none⟩ = some (.string { data := #[] }) := cell_of HB1_2v.out rfl
      have c1_3 : (u2x.alloc (.cells #[.int .i64 0, .int .i64 0, .string { data := #[] }, .int .i64 0, .int .i64 0] 23)).cell? ⟨fb1, 3, none⟩ = some (.int .i64 0) := cell_of HB1_2v.out rfl
      have c1_4 : (u2x.alloc (.cells #[.int .i64 0, .int .i64 0, .string { data := #[] }, .int .i64 0, .int .i64 0] 23)).cell? ⟨fb1, 4, none⟩ = some (.int .i64 0) := cell_of HB1_2v.out rfl
      have c2_0 : (u2x.alloc (.cells #[.int .i64 0, .int .i64 0, .string { data := #[] }, .int .i64 0, .int .i64 0] 23)).cell? ⟨u2x.heap.size, 0, none⟩ = some (.int .i64 0) := cell_of HB2_2v.out rfl
      have c2_1 : (u2x.alloc (.cells #[.int .i64 0, .int .i64 0, .string { data := #[] }, .int .i64 0, .int .i64 0] 23)).cell? ⟨u2x.heap.size, 1, none⟩ = some (.int .i64 0) := cell_of HB2_2v.out rfl
      have c2_2 : (u2x.alloc (.cells #[.int .i64 0, .int .i64 0, .string { data := #[] }, .int .i64 0, .int .i64 0] 23)).cell? ⟨u2x.heap.size, 2, none⟩ = some (.string { data := #[] }) := cell_of HB2_2v.out rfl
      have c2_3 : (u2x.alloc (.cells #[.int .i64 0, .int .i64 0, .string { data := #[] }, .int .i64 0, .int .i64 0] 23)).cell? ⟨u2x.heap.size, 3, none⟩ = some (.int .i64 0) := cell_of HB2_2v.out rfl
      have c2_4 : (u2x.alloc (.cells #[.int .i64 0, .int .i64 0, .string { data := #[] }, .int .i64 0, .int .i64 0] 23)).cell? ⟨u2x.heap.size, 4, none⟩ = some (.int .i64 0) := cell_of HB2_2v.out rfl
      clear HB0_2v HB1_2v HB2_2v
      go_wp2_with fail
      go_ret
      exact ⟨rfl, HK3.out⟩
end Go.Proofs.YtleenphlgbklmabGreatDoor

namespace Go.Proofs.YtleenphlgbklmabGreatDoor
open Go.RowKit

set_option maxRecDepth 20000 in
set_option maxHeartbeats 4000000 in
theorem ref_2 {A : Nat → Addr} (c : Int) (w : World) (hG : Glb A w) (HP : Hid (∀ W, Calls Tryz.prog 11 #[.int .i64 c, .int .i64 63] W fun e w' => e = .returned (.int .i64 57) ∧ w' = W)) : Calls Tryz.prog 7 #[.int .i64 c] w fun e w' => e = .returned (.bool true) ∧ Kept w w' := by
  have hk1 : Kept w (w.alloc (.cells fltC 51)) := Kept.alloc _ _
  have HLS : Hid (Calls Tryz.prog 18 #[] w fun e w' => e = .returned (.slice (some ⟨w.heap.size, 0, none⟩) 55 55) ∧ w' = w.alloc (.cells fltC 51)) := faults_sx w
  generalize w.alloc (.cells fltC 51) = W at *
  have HK0 : Hid _ := hk1
  have HG0 : Hid _ := hG.kept hk1
  clear hk1 hG
  go_enter Tryz.func7, Tryz.ntmps7
  go_wp2_with fail
  refine Calls.mono HLS.out ?_
  rintro e w1 ⟨rfl, hww⟩
  rw [hww]
  clear hww w1 HLS
  go_wp2_with fail
  refine Calls.mono (HP.out _) ?_
  rintro e w1 ⟨rfl, hww⟩
  rw [hww]
  clear hww w1 HP
  go_wp2_with fail
  go_loopw [9] (fun s wr => ∃ k : Nat, k ≤ 301 ∧ s = .string (lx k) ∧ wr = W) (fun s _ => 301 - strN s)
  case atStart => exact ⟨0, by omega, rfl, rfl⟩
  case round =>
    obtain ⟨k, hk, rfl, hw⟩ := hrel
    rw [hw]
    clear hw
    have hz := lx_size k
    by_cases hlt : k ≤ 300
    · have HE : Hid _ := lx_snoc k
      have hz2 := lx_size (k + 1)
      clear HK0 HG0
      go_wp2
      go_roundw
      case measure =>
        rw [← HE.out]
        simp only [strN, hz, hz2]
        omega
      case rel => exact ⟨k + 1, by omega, by rw [HE.out], trivial⟩
    · obtain rfl : k = 301 := by omega
      generalize lx 301 = L at *
      go_wp2_with fail
      refine Calls.mono (inf_rows (w := W) kvB (m := 3) rfl (by omega) (by decide +kernel) rfl rfl (fun V hk => hi_two ((HG0.out).kept hk))) ?_
      rintro e u0x ⟨rfl, hkc⟩
      have hk0a : Kept u0x (u0x.alloc (.cells #[.int .i64 5, .int .i64 0, .string { data := #[98] }, .int .i64 2, .int .i64 1] 23)) := Kept.alloc _ _
      have hb0a := heap_alloc_new u0x (.cells #[.int .i64 5, .int .i64 0, .string { data := #[98] }, .int .i64 2, .int .i64 1] 23)
      have HK1 : Hid _ := (HK0.out.trans hkc).trans hk0a
      have HG1 : Hid _ := (HG0.out.kept hkc).kept hk0a
      have HB0_0v : Hid _ := hb0a
      clear hkc hk0a hb0a HK0 HG0 
      try unfold faultVal
      try unfold faultV5
      have c0_0 : (u0x.alloc (.cells #[.int .i64 5, .int .i64 0, .string { data := #[98] }, .int .i64 2, .int .i64 1] 23)).cell? ⟨u0x.heap.size, 0, none⟩ = some (.int .i64 5) := cell_of HB0_0v.out rfl
      have c0_1 : (u0x.alloc (.cells #[.int .i64 5, .int .i64 0, .string { data := #[98] }, .int .i64 2, .int .i64 1] 23)).cell? ⟨u0x.heap.size, 1, none⟩ = some (.int .i64 0) := cell_of HB0_0v.out rfl
      have c0_2 : (u0x.alloc (.cells #[.int .i64 5, .int .i64 0, .string { data := #[98] }, .int .i64 2, .int .i64 1] 23)).cell? ⟨u0x.heap.size, 2, none⟩ = some (.string { data := #[98] }) := cell_of HB0_0v.out rfl
      have c0_3 : (u0x.alloc (.cells #[.int .i64 5, .int .i64 0, .string { data := #[98] }, .int .i64 2, .int .i64 1] 23)).cell? ⟨u0x.heap.size, 3, none⟩ = some (.int .i64 2) := cell_of HB0_0v.out rfl
      have c0_4 : (u0x.alloc (.cells #[.int .i64 5, .int .i64 0, .string { data := #[98] }, .int .i64 2, .int .i64 1] 23)).cell? ⟨u0x.heap.size, 4, none⟩ = some (.int .i64 1) := cell_of HB0_0v.out rfl
      clear HB0_0v
      go_wp2_with fail
      go_ret
      exact ⟨rfl, HK1.out⟩
end Go.Proofs.YtleenphlgbklmabGreatDoor
