import Derived.Test.YtleenphlgbklmabGreatDoorZWtD
import Derived.Test.YtleenphlgbklmabGreatDoorZPHc
import Derived.Test.YtleenphlgbklmabGreatDoorZPHb
set_option linter.unusedVariables false
set_option linter.unusedSimpArgs false
namespace Go.Proofs.YtleenphlgbklmabGreatDoor
open Go.RowKit

theorem WK.ok {B wb ob sb stop : Nat} : KOk (WK B wb ob sb stop) := fun _ _ _ _ h k => WKP.kt h k
theorem WK.rw {B wb ob sb stop : Nat} : KRw (WK B wb ob sb stop) := fun w o g vals j v h hg => WKP.keep h (fun q cs t hq _ ht => (Below.heap_setCell _ _ _ q (fun z => by
  have z : q = g := z
  rw [z, hg] at hq
  simp only [Option.some.injEq, Obj.cells.injEq] at hq
  obtain ⟨_, rfl, _⟩ := hq
  rcases ht with e | e | e | e <;> cases e)).trans hq)
theorem Kw.from5 {B : Nat} {w w5 w6 : World} {ad : List Nat} (h : Kept w w5) (k : Kw B ad w5 w6) (had : ∀ a, a ∈ ad → w.heap.size ≤ a) : Kw B [] w w6 := ⟨k.os.trans h.os, k.output.trans h.output, Nat.le_trans h.size k.size, fun q o hq h1 _ => k.blk q o (h.blk hq) h1 (fun _ z => by have := had q z; have := lt_of_block hq; omega)⟩
set_option maxRecDepth 20000 in
set_option maxHeartbeats 4000000 in
theorem tot_w {A : Nat → Addr} {B wb ob mb fb sb stop fl : Nat} {s : ByteArray} {em : Nat} {kv kvs : List (ByteArray × ByteArray)} {x : X} {gv : Gv} {σ : St} {ck : Option (Nat × ByteArray)} {res : Oc (TR × St)} {o' : List Rdt} (w : World) (hGA : GA A B [] w) (hWK : WK B wb ob sb stop w []) (hst : stop ≤ 1000000) (hS : SM w em kv) (hl : kv.length ≤ 1000) (hsz : ∀ y, y ∈ kv → y.1.size ≤ 1000) (hp : kvs.Perm kv) (hso : (kvs.map fun y => y.1.data.toList).Pairwise (fun x y => decide (x ≤ y) = true)) (h1 : 1 ≤ fl) (h2 : fl ≤ 12) (hx : exO s = some x) (hgv : gvF kvs [] [] = some (gv, σ)) (hck : chkF true gv 500 x [] = some ck) (hty : typF (tlW stop) true gv fl 500 x [] σ [] = some (res, o')) (hcn : ck = none) :
    Calls Tryz.prog 45 #[.agg #[.int .i64 fl, .func (.func 28) #[] #[.pointer (some ⟨wb, 0, none⟩), .pointer (some ⟨ob, 0, none⟩), .pointer (some ⟨mb, 0, none⟩), .pointer (some ⟨fb, 0, none⟩), .pointer (some ⟨sb, 0, none⟩)]], .string s, .map (some em)] w fun e w' => (Kw B [] w w' ∧ WK B wb ob sb stop w' o') ∧ TtO A w e w' ck res := by
  have hG := hGA.glb
  subst hcn
  have hk1 : Kept w (((w.alloc (.cells #[.int .i64 fl, .func (.func 28) #[] #[.pointer (some ⟨wb, 0, none⟩), .pointer (some ⟨ob, 0, none⟩), .pointer (some ⟨mb, 0, none⟩), .pointer (some ⟨fb, 0, none⟩), .pointer (some ⟨sb, 0, none⟩)]] 103)).alloc (.cells #[.nilIface] 77)).alloc (.cells #[.nilIface] 56)) := ((Kept.alloc _ _).trans (Kept.alloc _ _)).trans (Kept.alloc _ _)
  have e1 : (w.alloc (.cells #[.int .i64 fl, .func (.func 28) #[] #[.pointer (some ⟨wb, 0, none⟩), .pointer (some ⟨ob, 0, none⟩), .pointer (some ⟨mb, 0, none⟩), .pointer (some ⟨fb, 0, none⟩), .pointer (some ⟨sb, 0, none⟩)]] 103)).heap.size = w.heap.size + 1 := by simp
  have e2 : ((w.alloc (.cells #[.int .i64 fl, .func (.func 28) #[] #[.pointer (some ⟨wb, 0, none⟩), .pointer (some ⟨ob, 0, none⟩), .pointer (some ⟨mb, 0, none⟩), .pointer (some ⟨fb, 0, none⟩), .pointer (some ⟨sb, 0, none⟩)]] 103)).alloc (.cells #[.nilIface] 77)).heap.size = w.heap.size + 1 + 1 := by simp
  have hb0 : (((w.alloc (.cells #[.int .i64 fl, .func (.func 28) #[] #[.pointer (some ⟨wb, 0, none⟩), .pointer (some ⟨ob, 0, none⟩), .pointer (some ⟨mb, 0, none⟩), .pointer (some ⟨fb, 0, none⟩), .pointer (some ⟨sb, 0, none⟩)]] 103)).alloc (.cells #[.nilIface] 77)).alloc (.cells #[.nilIface] 56)).heap[w.heap.size]? = some (.cells #[.int .i64 fl, .func (.func 28) #[] #[.pointer (some ⟨wb, 0, none⟩), .pointer (some ⟨ob, 0, none⟩), .pointer (some ⟨mb, 0, none⟩), .pointer (some ⟨fb, 0, none⟩), .pointer (some ⟨sb, 0, none⟩)]] 103 (0, 0)) := ((Kept.alloc _ _).trans (Kept.alloc _ _)).blk (heap_alloc_new _ _)
  have hb1 : (((w.alloc (.cells #[.int .i64 fl, .func (.func 28) #[] #[.pointer (some ⟨wb, 0, none⟩), .pointer (some ⟨ob, 0, none⟩), .pointer (some ⟨mb, 0, none⟩), .pointer (some ⟨fb, 0, none⟩), .pointer (some ⟨sb, 0, none⟩)]] 103)).alloc (.cells #[.nilIface] 77)).alloc (.cells #[.nilIface] 56)).heap[w.heap.size + 1]? = some (.cells #[.nilIface] 77 (0, 0)) := by
    rw [← e1]
    exact (Kept.alloc _ _).blk (heap_alloc_new _ _)
  have hb2 : (((w.alloc (.cells #[.int .i64 fl, .func (.func 28) #[] #[.pointer (some ⟨wb, 0, none⟩), .pointer (some ⟨ob, 0, none⟩), .pointer (some ⟨mb, 0, none⟩), .pointer (some ⟨fb, 0, none⟩), .pointer (some ⟨sb, 0, none⟩)]] 103)).alloc (.cells #[.nilIface] 77)).alloc (.cells #[.nilIface] 56)).heap[w.heap.size + 1 + 1]? = some (.cells #[.nilIface] 56 (0, 0)) := by
    rw [← e2]
    exact heap_alloc_new _ _
  clear e1 e2
  go_enter_defers Tryz.func45, Tryz.ntmps45
  go_wp2_with fail
  generalize ((w.alloc (.cells #[.int .i64 fl, .func (.func 28) #[] #[.pointer (some ⟨wb, 0, none⟩), .pointer (some ⟨ob, 0, none⟩), .pointer (some ⟨mb, 0, none⟩), .pointer (some ⟨fb, 0, none⟩), .pointer (some ⟨sb, 0, none⟩)]] 103)).alloc (.cells #[.nilIface] 77)).alloc (.cells #[.nilIface] 56) = W at *
  have HP : Hid _ := ex_good hx W (hG.kept hk1)
  refine Calls.mono HP.out ?_
  rintro e w1 ⟨hkp, T, u, rfl, hpx⟩
  have c0 := hkp.blk hb0
  have c1 := hkp.blk hb1
  have c2 := hkp.blk hb2
  have d0 : w1.cell? ⟨w.heap.size, 0, none⟩ = some (.int .i64 fl) := by simp [World.cell?, c0]
  have d2 : w1.cell? ⟨w.heap.size + 1 + 1, 0, none⟩ = some .nilIface := by simp [World.cell?, c2]
  have f2 : w1.frozen? ⟨w.heap.size + 1 + 1, 0, none⟩ = false := by simp [World.frozen?, c2]
  have HW1 : Hid _ := hk1.trans hkp
  have HPX : Hid _ := hpx
  clear HP hkp hpx hb0 hb1 hb2 hk1
  go_wp2_with fail
  have hk2 := Kept.again c2
  generalize w1.setCell ⟨w.heap.size + 1 + 1, 0, none⟩ .nilIface = w2 at *
  have hkw2 := HW1.out.trans hk2
  have c0 := hk2.blk c0
  have c1 := hk2.blk c1
  have c2 := hk2.blk c2
  have HGS : Hid _ := given_sx (hG.kept hkw2) ⟨hkw2.blk hS.mp, hS.nd⟩ hl hsz hp hso hgv
  have HPX2 : Hid _ := PX.keepT (XKeep.kept hk2) HPX.out
  have HGL : Hid _ := hG
  have HCK : Hid _ := hck
  have HTY : Hid _ := hty
  have HWK0 : Hid (WK B wb ob sb stop w []) := hWK
  have HGA0 : Hid (GA A B [] w) := hGA
  have HW2 : Hid _ := hkw2
  clear hkw2 hk2 HW1 HPX hG hS hl hsz hp hso hgv hck hty hWK hGA d0 d2 f2 hx
  refine Calls.mono HGS.out ?_
  rintro e w3 ⟨gm, ad, rfl, hs3, har, hgm, had, hk3⟩
  have c0 := hk3.blk c0
  have c1 := hk3.blk c1
  have c2 := hk3.blk c2
  have hka : Kept w3 (w3.alloc (.cells #[.pointer none, .map (some gm)] 168)) := Kept.alloc _ _
  have hnb := heap_alloc_new w3 (.cells #[.pointer none, .map (some gm)] 168)
  have c0 := hka.blk c0
  have c1 := hka.blk c1
  have c2 := hka.blk c2
  have d2 : (w3.alloc (.cells #[.pointer none, .map (some gm)] 168)).cell? ⟨w.heap.size + 1 + 1, 0, none⟩ = some .nilIface := by rw [World.cell?]; simp only [c2]; rfl
  have f2 : (w3.alloc (.cells #[.pointer none, .map (some gm)] 168)).frozen? ⟨w.heap.size + 1 + 1, 0, none⟩ = false := by rw [World.frozen?]; simp only [c2]; rfl
  have HNB : Hid _ := hnb
  have HS3 : Hid _ := hs3
  have HAR : Hid _ := har
  have HGM : Hid _ := hgm
  have HAD : Hid _ := had
  have HK3 : Hid _ := hk3
  have HKA : Hid _ := hka
  have HC0 : Hid _ := c0
  have HC1 : Hid _ := c1
  have HC2 : Hid _ := c2
  have hk4 := Kept.again HC2.out
  have cn := hk4.blk HNB.out
  have n0 : ((w3.alloc (.cells #[.pointer none, .map (some gm)] 168)).setCell ⟨w.heap.size + 1 + 1, 0, none⟩ .nilIface).cell? ⟨w3.heap.size, 0, none⟩ = some (.pointer none) := by rw [World.cell?]; simp only [cn]; rfl
  have n1 : ((w3.alloc (.cells #[.pointer none, .map (some gm)] 168)).setCell ⟨w.heap.size + 1 + 1, 0, none⟩ .nilIface).cell? ⟨w3.heap.size, 1, none⟩ = some (.map (some gm)) := by rw [World.cell?]; simp only [cn]; rfl
  have HK4 : Hid _ := hk4
  clear HGS hs3 har hgm had hk3 hka hnb c0 c1 c2 hk4 cn
  go_wp2_with fail
  have hk4 := HK4.out
  clear HK4
  generalize (w3.alloc (.cells #[.pointer none, .map (some gm)] 168)).setCell ⟨w.heap.size + 1 + 1, 0, none⟩ .nilIface = w4 at *
  have hk34 := HKA.out.trans hk4
  have c0 := hk4.blk HC0.out
  have c1 := hk4.blk HC1.out
  have c2 := hk4.blk HC2.out
  have cn := hk4.blk HNB.out
  have hkw4 := (HW2.out.trans HK3.out).trans hk34
  have hci : CI w4 ad [] gv none gm := ⟨rfl, GM.kt HGM.out (Kt.of_kept (ad := ad) (S := fun _ => False) hk34) id⟩
  have hpx4 := PX.keepT (XKeep.kept (HK3.out.trans hk34)) HPX2.out
  have HCH : Hid _ := chk_sx (rk := true) (fun _ => scg_sx gv) 500 x [] none HCK.out w4 ad _ none gm hpx4 hci
  have HKW4 : Hid _ := hkw4
  have HK34 : Hid _ := hk34
  have HPX4 : Hid _ := hpx4
  have HCI : Hid _ := hci
  have HC0' : Hid _ := c0
  have HC1' : Hid _ := c1
  have HC2' : Hid _ := c2
  have HCN : Hid _ := cn
  clear HPX2 HNB HC0 HC1 HC2 d2 f2 hkw4 hk34 hpx4 hci HCK hk4 HKA c0 c1 c2 cn HGM
  refine Calls.mono HCH.out ?_
  intro e w5 hE
  rcases hE.split with ⟨q, b, hq, _⟩ | ⟨_, rfl, hk5⟩
  · cases hq
  · have hty := HTY.out
    have c0 := hk5.blk HC0'.out
    have c1 := hk5.blk HC1'.out
    have c2 := hk5.blk HC2'.out
    have cn := hk5.blk HCN.out
    have d0 : w5.cell? ⟨w.heap.size, 0, none⟩ = some (.int .i64 fl) := by simp [World.cell?, c0]
    have d1 : w5.cell? ⟨w.heap.size, 1, none⟩ = some (.func (.func 28) #[] #[.pointer (some ⟨wb, 0, none⟩), .pointer (some ⟨ob, 0, none⟩), .pointer (some ⟨mb, 0, none⟩), .pointer (some ⟨fb, 0, none⟩), .pointer (some ⟨sb, 0, none⟩)]) := by simp [World.cell?, c0]
    have n0' : w5.cell? ⟨w3.heap.size, 0, none⟩ = some (.pointer none) := by simp [World.cell?, cn]
    have n1' : w5.cell? ⟨w3.heap.size, 1, none⟩ = some (.map (some gm)) := by simp [World.cell?, cn]
    have hkw5 := HKW4.out.trans hk5
    have hk35 := HK34.out.trans hk5
    have hga := HGA0.out.kept hkw5
    have hwk5 : WK B wb ob sb stop w5 [] := WKP.kt HWK0.out (Kt.of_kept (ad := []) hkw5)
    have had : ∀ a, a ∈ ad → w.heap.size ≤ a := fun a ha => Nat.le_trans HW2.out.size (HAD.out a ha)
    have hTI : TI A B (WK B wb ob sb stop) w5 ad σ [] gv none gm [] := ⟨SX.kept HS3.out hk35, AR.ws HAR.out, ⟨hga.glb, fun q hq => Nat.le_trans HGA0.out.sz (had q hq), hga.sz, hga.ab, hga.gb⟩, rfl, (HCI.out.kept hk5).gm, hwk5⟩
    have HT : Hid _ := typ_sx (tl := tlW stop) (B := B) (rk := true) (wv := .func (.func 28) #[] #[.pointer (some ⟨wb, 0, none⟩), .pointer (some ⟨ob, 0, none⟩), .pointer (some ⟨mb, 0, none⟩), .pointer (some ⟨fb, 0, none⟩), .pointer (some ⟨sb, 0, none⟩)]) WK.ok (fun _ f hf => sgr_sx WK.ok WK.rw (by omega) (tell_w hst) hf) 500 x [] σ [] (res, o') hty w5 ad _ none gm (PX.keepT (XKeep.kept hk5) HPX4.out) hTI
    have HC1 : Hid _ := c1
    have HC2 : Hid _ := c2
    have HKW5 : Hid _ := hkw5
    have HAD5 : Hid _ := had
    clear hty c0 c1 c2 cn hkw5 hk35 hga had hTI hk5 HCH HTY HGL HWK0 HGA0 hwk5 HS3 HAR HCI HPX4 hE
    go_wp2_with fail
    refine Calls.mono HT.out ?_
    intro e w6 hE
    cases res with
    | er j =>
      obtain ⟨he, hwk6, hkw⟩ := hE
      rw [show e = _ from he]
      have hgk := Gk.ofKw hkw
      have g1 := hgk.oth (by decide) HC1.out
      have g2 := hgk.oth (by decide) HC2.out
      have hKF := Kw.from5 HKW5.out hkw HAD5.out
      clear he HT
      refine leaves_cons (f := 70) (args := #[.pointer (some ⟨w.heap.size + 1, 0, none⟩), .pointer (some ⟨w.heap.size + 1 + 1, 0, none⟩)]) (by simp) (by simp [go_sem]) ?_
      refine (catchY_panicking ⟨w.heap.size + 1, 0, none⟩ ⟨w.heap.size + 1 + 1, 0, none⟩ .nilIface .nilIface 342 (.pointer (some (A j))) [] w6 ?_ ?_ ?_ ?_ ?_).mono ?_
      · simp [World.cell?, g1]
      · simp [World.frozen?, g1]
      · simp [World.cell?, g2]
      · simp [World.frozen?, g2]
      · simp
      rintro e u' w7 ⟨rfl, rfl, hww⟩
      obtain ⟨cp, cq, ho, hou, hsz, hkk⟩ := catch_world g1 g2 (by omega) hww
      have HF : Hid ((Kw B [] w w7 ∧ WK B wb ob sb stop w7 o') ∧ TtO A w (.returned (.tuple #[.nilIface, .iface 342 (.pointer (some (A j)))])) w7 none (.er j)) := by
        refine ⟨⟨⟨ho.trans hKF.os, hou.trans hKF.output, Nat.le_trans hKF.size hsz, fun k ob' hk h1 h2 => hkk k _ (by have := lt_of_block hk; omega) (hKF.blk k ob' hk h1 h2)⟩, WKP.keep hwk6 (fun q cs t hq _ ht => hkk q _ (fun z => ?_) hq)⟩, rfl⟩
        rw [z, g2] at hq
        simp only [Option.some.injEq, Obj.cells.injEq] at hq
        obtain ⟨_, rfl, _⟩ := hq
        rcases ht with e | e | e | e <;> cases e
      clear hww
      simp [Leaves, settle, results, Tryz.results45, go_sem, cp, cq]
      exact HF.out
    | ok q =>
      obtain ⟨v6, ad6, rfl, hv6, hs6, hw6, hwk6, hg6⟩ := hE
      obtain ⟨T6, u6, rfl⟩ := hv6.iface
      have g1 := hg6.oth (by decide) HC1.out
      have g2 := hg6.oth (by decide) HC2.out
      have hKF := Kw.from5 HKW5.out hg6.kw HAD5.out
      have had6 : ∀ a, a ∈ ad6 → w.heap.size ≤ a := fun a ha => by
        obtain ⟨⟨uu, rfl, hu⟩, _⟩ := hg6
        simp at ha
        rcases ha with ha | ha
        · exact HAD5.out a ha
        · exact Nat.le_trans HKW5.out.size (hu a ha)
      have e1 : w6.cell? ⟨w.heap.size + 1, 0, none⟩ = some .nilIface := by simp [World.cell?, g1]
      have e2 : w6.frozen? ⟨w.heap.size + 1, 0, none⟩ = false := by simp [World.frozen?, g1]
      have ho : ∀ k, k ≠ w.heap.size + 1 → (w6.setCell ⟨w.heap.size + 1, 0, none⟩ (.iface T6 u6)).heap[k]? = w6.heap[k]? := fun k hk => Below.heap_setCell _ _ _ k (fun z => hk z)
      have g1' : (w6.setCell ⟨w.heap.size + 1, 0, none⟩ (.iface T6 u6)).heap[w.heap.size + 1]? = some (.cells #[.iface T6 u6] 77 (0, 0)) := by simp [World.setCell, g1, Array.getElem?_modify]
      have g2' := (ho (w.heap.size + 1 + 1) (by omega)).trans g2
      have e3 : (w6.setCell ⟨w.heap.size + 1, 0, none⟩ (.iface T6 u6)).cell? ⟨w.heap.size + 1 + 1, 0, none⟩ = some .nilIface := by rw [World.cell?]; simp only [g2']; rfl
      have e4 : (w6.setCell ⟨w.heap.size + 1, 0, none⟩ (.iface T6 u6)).frozen? ⟨w.heap.size + 1 + 1, 0, none⟩ = false := by rw [World.frozen?]; simp only [g2']; rfl
      have hka := Kept.again g2'
      have hb1 : ¬ w.heap.size + 1 ∈ ad6 := fun z => by
        obtain ⟨τ, s1, _⟩ := hs6
        obtain ⟨oo, h8, cs', ee, ff, rfl, ht⟩ := s1.tb z
        rw [g1] at h8
        simp only [Option.some.injEq, Obj.cells.injEq] at h8
        obtain ⟨_, rfl, _⟩ := h8
        rcases ht with e | e | e | e <;> cases e
      have hs7 : SX (w6.setCell ⟨w.heap.size + 1, 0, none⟩ (.iface T6 u6)) ad6 q.2 := hs6.keep (fun b oo hb hbo => (ho b (fun z => hb1 (z ▸ hb))).trans hbo)
      have hK7 : Kw B [] w (w6.setCell ⟨w.heap.size + 1, 0, none⟩ (.iface T6 u6)) := ⟨hKF.os, hKF.output, by simpa using hKF.size, fun k ob' hk h1 h2 => (ho k (by have := lt_of_block hk; omega)).trans (hKF.blk k ob' hk h1 h2)⟩
      have hwk7 : WK B wb ob sb stop (w6.setCell ⟨w.heap.size + 1, 0, none⟩ (.iface T6 u6)) o' := WKP.keep hwk6 (fun q cs t hq _ ht => (ho q (fun z => by
        rw [z, g1] at hq
        simp only [Option.some.injEq, Obj.cells.injEq] at hq
        obtain ⟨_, rfl, _⟩ := hq
        rcases ht with e | e | e | e <;> cases e)).trans hq)
      have HF : Hid ((Kw B [] w ((w6.setCell ⟨w.heap.size + 1, 0, none⟩ (.iface T6 u6)).setCell ⟨w.heap.size + 1 + 1, 0, none⟩ .nilIface) ∧ WK B wb ob sb stop ((w6.setCell ⟨w.heap.size + 1, 0, none⟩ (.iface T6 u6)).setCell ⟨w.heap.size + 1 + 1, 0, none⟩ .nilIface) o') ∧ TtO A w (.returned (.tuple #[.iface T6 u6, .nilIface])) ((w6.setCell ⟨w.heap.size + 1, 0, none⟩ (.iface T6 u6)).setCell ⟨w.heap.size + 1 + 1, 0, none⟩ .nilIface) none (.ok q)) := ⟨⟨⟨hka.os.trans hK7.os, hka.output.trans hK7.output, Nat.le_trans hK7.size hka.size, fun k ob' hk h1 h2 => hka.blk (hK7.blk k ob' hk h1 h2)⟩, WKP.kt hwk7 (Kt.of_kept (ad := []) hka)⟩, T6, u6, ad6, rfl, hv6, hs7.kept hka, had6⟩
      have x1 := hka.blk g1'
      have x2 := hka.blk g2'
      have cp : ((w6.setCell ⟨w.heap.size + 1, 0, none⟩ (.iface T6 u6)).setCell ⟨w.heap.size + 1 + 1, 0, none⟩ .nilIface).cell? ⟨w.heap.size + 1, 0, none⟩ = some (.iface T6 u6) := by rw [World.cell?]; simp only [x1]; rfl
      have cq : ((w6.setCell ⟨w.heap.size + 1, 0, none⟩ (.iface T6 u6)).setCell ⟨w.heap.size + 1 + 1, 0, none⟩ .nilIface).cell? ⟨w.heap.size + 1 + 1, 0, none⟩ = some .nilIface := by rw [World.cell?]; simp only [x2]; rfl
      clear hs7 hK7 hwk7 hwk6 hka hb1 had6 hKF g1 g2 g1' g2' ho x1 x2 hv6 hs6 hw6 hg6 HT
      go_wp2_with fail
      refine leaves_cons (f := 70) (args := #[.pointer (some ⟨w.heap.size + 1, 0, none⟩), .pointer (some ⟨w.heap.size + 1 + 1, 0, none⟩)]) (by simp) (by simp [go_sem]) ?_
      refine (catchY_idle ⟨w.heap.size + 1, 0, none⟩ ⟨w.heap.size + 1 + 1, 0, none⟩ _).mono ?_
      rintro e u' w'' ⟨rfl, rfl, rfl⟩
      simp [Leaves, settle, results, Tryz.results45, go_sem, cp, cq]
      exact HF.out
end Go.Proofs.YtleenphlgbklmabGreatDoor

namespace Go.Proofs.YtleenphlgbklmabGreatDoor
open Go.RowKit

set_option maxRecDepth 20000 in
theorem watchw_err {wb ob mb fb sb : Nat} (s : ByteArray) (em : Nat) (fl : Int) (w : World) (R : TypeId → Value → World → Prop) (HP : Hid (Calls Tryz.prog 45 #[.agg #[.int .i64 fl, .func (.func 28) #[] #[.pointer (some ⟨wb, 0, none⟩), .pointer (some ⟨ob, 0, none⟩), .pointer (some ⟨mb, 0, none⟩), .pointer (some ⟨fb, 0, none⟩), .pointer (some ⟨sb, 0, none⟩)]], .string s, .map (some em)] w fun e w' => ∃ T z, e = .returned (.tuple #[.nilIface, .iface T z]) ∧ Hid (R T z w'))) :
    Calls Tryz.prog 27 #[.string s, .map (some em), .int .i64 fl, .func (.func 28) #[] #[.pointer (some ⟨wb, 0, none⟩), .pointer (some ⟨ob, 0, none⟩), .pointer (some ⟨mb, 0, none⟩), .pointer (some ⟨fb, 0, none⟩), .pointer (some ⟨sb, 0, none⟩)]] w fun e w' => ∃ T z, e = .returned (.tuple #[.string { data := #[] }, .iface T z]) ∧ Hid (R T z w') := by
  go_enter Tryz.func27, Tryz.ntmps27
  go_wp2_with fail
  refine Calls.mono HP.out ?_
  rintro e w1 ⟨T, z, rfl, HR⟩
  clear HP
  go_wp2
  exact bodyPost_ret (v := .tuple #[.string { data := #[] }, .iface T z]) (by simp [results, Tryz.results27, go_sem]) rfl ⟨T, z, rfl, HR⟩
set_option maxRecDepth 20000 in
theorem watchw_ok {B wb ob mb fb sb stop : Nat} {o : List Rdt} (s : ByteArray) (em : Nat) (fl : Int) (w : World) (t : Ty) (hs : sz t ≤ 120) (HP : Hid (Calls Tryz.prog 45 #[.agg #[.int .i64 fl, .func (.func 28) #[] #[.pointer (some ⟨wb, 0, none⟩), .pointer (some ⟨ob, 0, none⟩), .pointer (some ⟨mb, 0, none⟩), .pointer (some ⟨fb, 0, none⟩), .pointer (some ⟨sb, 0, none⟩)]], .string s, .map (some em)] w fun e w' => ∃ v ad σ r, e = .returned (.tuple #[v, .nilIface]) ∧ SX w' ad σ ∧ RV ad r v ∧ Dn σ r t ∧ (∀ c, c ∈ ad → w.heap.size ≤ c) ∧ Kw B [] w w' ∧ WK B wb ob sb stop w' o)) :
    Calls Tryz.prog 27 #[.string s, .map (some em), .int .i64 fl, .func (.func 28) #[] #[.pointer (some ⟨wb, 0, none⟩), .pointer (some ⟨ob, 0, none⟩), .pointer (some ⟨mb, 0, none⟩), .pointer (some ⟨fb, 0, none⟩), .pointer (some ⟨sb, 0, none⟩)]] w fun e w' => e = .returned (.tuple #[.string (canT t), .nilIface]) ∧ Kw B [] w w' ∧ WK B wb ob sb stop w' o := by
  go_enter Tryz.func27, Tryz.ntmps27
  go_wp2_with fail
  refine Calls.mono HP.out ?_
  rintro e w1 ⟨v, ad, σ, r, rfl, hx, hv, hd, hA, hk1, hwk⟩
  have HWK : Hid (WK B wb ob sb stop w1 o) := hwk
  have HN : Hid _ := pnio_any w1
  have HS : Hid (∀ w2 nb mbn, w2.heap[nb]? = some (.cells #[.map (some mbn)] 123 (0, 0)) → NM w2 mbn [] → Kp (fun _ => False) w1 w2 → Calls Tryz.prog 36 #[v, .func (.func 57) #[] #[.pointer (some ⟨nb, 0, none⟩)]] w2 fun e w' => e = .returned (.string (canT t)) ∧ SX w' ad σ ∧ Kt ad (· = mbn) w2 w') := fun w2 nb mbn h1 h2 h3 => show_num w2 nb mbn ad σ r t v (hx.keep (fun _ _ _ ho => h3.blk ho id)) hv hd (by omega) h1 (by have := h2.mp; simpa [nFrom] using this)
  obtain ⟨T, u, rfl⟩ := hv.iface
  have HK1 : Hid _ := hk1
  clear HP hx hv hd hk1 hwk
  go_wp2_with fail
  refine Calls.mono HN.out ?_
  rintro e w2 ⟨nb, mbn, rfl, hb2, hm2, hk2, hmb⟩
  have HS2 : Hid _ := HS.out w2 nb mbn hb2 hm2 hk2
  clear HN HS hb2 hm2
  go_wp2_with fail
  refine Calls.mono HS2.out ?_
  rintro e w3 ⟨rfl, _, hk3⟩
  have hkt : Kt ad (fun _ => False) w1 w3 := by
    have h0 : Kt ad (· = mbn) w1 w3 := (Kt.of_kept (Kept.of0 hk2)).trans hk3
    exact ⟨h0.os, h0.output, h0.size, fun q o hq _ ht => h0.blk0 q o hq (fun z => by have z : q = mbn := z; have := lt_of_block hq; omega) ht⟩
  have HKF : Hid (Kw B [] w w3 ∧ WK B wb ob sb stop w3 o) := ⟨⟨hkt.os.trans HK1.out.os, hkt.output.trans HK1.out.output, Nat.le_trans HK1.out.size hkt.size, fun q o hq h1 h2 => hkt.blk0 q o (HK1.out.blk q o hq h1 h2) id (fun _ z => by have := hA q z; have := lt_of_block hq; omega)⟩, WKP.kt HWK.out hkt⟩
  clear HS2 hk3 hk2 HK1 hkt
  go_wp2
  exact bodyPost_ret (v := .tuple #[.string (canT t), .nilIface]) (by simp [results, Tryz.results27, go_sem]) rfl ⟨rfl, HKF.out⟩
end Go.Proofs.YtleenphlgbklmabGreatDoor

namespace Go.Proofs.YtleenphlgbklmabGreatDoor
open Go.RowKit

/-- a list of texts lies in memory. -/
def RowS (w : World) (v : Value) (l : List ByteArray) : Prop := ∃ ao cap g, v = .slice ao l.length cap ∧ ∀ (q : Nat) (x : ByteArray), l[q]? = some x → ao = some ⟨g, 0, none⟩ ∧ ∃ cs, w.heap[g]? = some (.cells cs 9 (0, 0)) ∧ cs[q]? = some (.string x)
theorem Tryz.mkT (w : World) : (Instr.makeMap 60 none).run Tryz.prog w = .ok (.map (some w.heap.size)) (w.alloc (.map #[] 0)) := by kernel_rfl
set_option maxRecDepth 20000 in
set_option maxHeartbeats 4000000 in
theorem env_sx {w : World} {kv : List (ByteArray × ByteArray)} {nv tv : Value} (hn : RowS w nv (kv.map Prod.fst)) (ht : RowS w tv (kv.map Prod.snd)) (hd : (kv.map Prod.fst).Nodup) (hl : kv.length ≤ 1000) :
    Calls Tryz.prog 26 #[nv, tv] w fun e w' => ∃ mb, e = .returned (.map (some mb)) ∧ SM w' mb kv ∧ Kept w w' ∧ w.heap.size ≤ mb := by
  obtain ⟨ao, cap, g, rfl, hr⟩ := hn
  obtain ⟨ao2, cap2, g2, rfl, hr2⟩ := ht
  have m1 := Tryz.mkT w
  have hk0 : Kept w (w.alloc (.map #[] 0)) := Kept.alloc _ _
  have hm0 := heap_alloc_new w (.map #[] 0)
  rw [List.length_map, List.length_map]
  go_enter Tryz.func26, Tryz.ntmps26
  go_wp2_with fail
  generalize w.alloc (.map #[] 0) = W at *
  have HR : Hid _ := hr
  have HR2 : Hid _ := hr2
  have HK0 : Hid _ := hk0
  have HD : Hid _ := hd
  have HM0 : Hid _ := hm0
  clear hr hr2 hk0 hm0 m1 hd
  go_loopw [10] (fun i wr => ∃ q : Nat, q ≤ kv.length ∧ i = .int .i64 q ∧ Hid (SM wr w.heap.size (kv.take q)) ∧ Hid (Kt [] (fun q => q = w.heap.size) W wr)) (fun i _ => kv.length - (intOf i).toNat)
  case atStart => exact ⟨0, Nat.zero_le _, rfl, ⟨HM0.out, by simp⟩, Kt.refl _ _ _⟩
  case round =>
    clear HM0
    obtain ⟨q, hq, rfl, HS, HT⟩ := hrel
    by_cases hlt : q < kv.length
    · obtain ⟨⟨n, ty⟩, hy⟩ : ∃ y, kv[q]? = some y := ⟨kv[q], by simp [hlt]⟩
      obtain ⟨rfl, cs, hg, hcq⟩ := HR.out q n (by rw [List.getElem?_map, hy]; rfl)
      obtain ⟨rfl, cs2, hg2, hcq2⟩ := HR2.out q ty (by rw [List.getElem?_map, hy]; rfl)
      have tk : kv.take (q + 1) = kv.take q ++ [(n, ty)] := by
        rw [List.take_succ_eq_append_getElem hlt]
        congr 2
        rw [List.getElem?_eq_getElem hlt] at hy
        simpa using hy
      have hkd : Kt [] (fun q => q = w.heap.size) W wr.drew := HT.out.trans (Kt.of_kept (Kept.drew wr))
      have nt : ∀ (cs : Array Value), ¬ TB (.cells cs 9 (0, 0)) := by
        rintro cs ⟨cs', e, f, he, ht⟩
        simp only [Obj.cells.injEq] at he
        obtain ⟨_, rfl, _⟩ := he
        rcases ht with e | e | e | e <;> cases e
      have hgl := lt_of_block hg
      have hgl2 := lt_of_block hg2
      have hgr := hkd.blk g _ (HK0.out.blk hg) (by show ¬ g = w.heap.size; omega) (nt _)
      have hgr2 := hkd.blk g2 _ (HK0.out.blk hg2) (by show ¬ g2 = w.heap.size; omega) (nt _)
      have c1 : wr.drew.cell? ⟨g, q, none⟩ = some (.string n) := by simp [World.cell?, hgr, hcq]
      have c2 : wr.drew.cell? ⟨g2, q, none⟩ = some (.string ty) := by simp [World.cell?, hgr2, hcq2]
      have hSd : SM wr.drew w.heap.size (kv.take q) := ⟨(Kept.drew wr).blk HS.out.mp, HS.out.nd⟩
      have hfi : (kv.take q).findIdx? (fun x => sameS x.1 n) = none := by
        rw [List.findIdx?_eq_none_iff]
        intro x hx
        rw [Bool.eq_false_iff]
        intro z
        have z := (sameS_iff _ _).1 z
        have hnd : (kv.map Prod.fst).Nodup := HD.out
        have e : kv.map Prod.fst = (kv.take q).map Prod.fst ++ (kv.drop q).map Prod.fst := by rw [← List.map_append, List.take_append_drop]
        rw [e, List.nodup_append] at hnd
        have h3 : n ∈ (kv.drop q).map Prod.fst := by
          rw [List.drop_eq_getElem_cons hlt]
          rw [List.getElem?_eq_getElem hlt] at hy
          simp only [Option.some.injEq] at hy
          simp [hy]
        exact hnd.2.2 x.1 (List.mem_map_of_mem hx) n h3 z
      obtain ⟨w6, hput, hS6, hK6⟩ : ∃ w6, (Instr.mapUpdate 60 (.map (some w.heap.size)) (.string n) (.agg #[.string ty])).run Tryz.prog wr.drew = .ok () w6 ∧ SM w6 w.heap.size (kv.take q ++ [(n, ty)]) ∧ Kt [] (fun q => q = w.heap.size) wr.drew w6 := ⟨_, run_tput 60 Tryz.underlying60 wr.drew w.heap.size (kv.take q) n ty hSd hfi, hSd.put n ty hfi, Kt.mapset hSd.mp _⟩
      rw [← tk] at hS6
      have hg6 := hK6.blk g _ hgr (by show ¬ g = w.heap.size; omega) (nt _)
      have hg62 := hK6.blk g2 _ hgr2 (by show ¬ g2 = w.heap.size; omega) (nt _)
      have c3 : w6.cell? ⟨g, q, none⟩ = some (.string n) := by simp [World.cell?, hg6, hcq]
      have c4 : w6.cell? ⟨g2, q, none⟩ = some (.string ty) := by simp [World.cell?, hg62, hcq2]
      have HS6 : Hid _ := hS6
      have HK6 : Hid _ := hkd.trans hK6
      clear hSd hfi hK6 hkd hgr hgr2 hg hg2 hcq hcq2 hy nt tk HS HT hgl hgl2 hS6 hg6 hg62
      go_wp2_with fail
      go_region_held3 (fun w' => w'.cell? ⟨g, q, none⟩ = some (.string n) ∧ w'.cell? ⟨g2, q, none⟩ = some (.string ty)) (go_keep) (fail)
      all_goals
        go_wp2
        go_roundw
        case measure => simp [intOf]; omega
        case rel => exact ⟨q + 1, hlt, by go_num, HS6.out, HK6.out⟩
    · have hqe : q = kv.length := by omega
      subst hqe
      have HF : Hid (SM wr w.heap.size kv) := by have := HS.out; rwa [List.take_length] at this
      have HKF : Hid (Kept w wr) := Kt.keptBy HK0.out HT.out (fun q z => by have z : q = w.heap.size := z; omega)
      clear HS HT HR HR2
      go_wp2
      go_ret
      exact ⟨_, rfl, HF.out, HKF.out, Nat.le_refl _⟩
end Go.Proofs.YtleenphlgbklmabGreatDoor

namespace Go.Proofs.YtleenphlgbklmabGreatDoor
open Go.RowKit

/-- a map's next entry, wherever the counter lies. -/
theorem next_at {P : Program} (w : World) (ty : TypeId) (it bm since c0 : Nat) (seen : Array Nat) (es : Array MapEntry) (clock : Nat) (hit : w.heap[it]? = some (.mapIter (some bm) since seen c0)) (hb : w.heap[bm]? = some (.map es clock)) (hold : ∀ x ∈ es.toList, x.born < since) (hsc : since ≤ c0) :
    ((leftOf es seen).size = 0 ∧ (Instr.next (.pointer (some ⟨it, 0, none⟩)) false ty).run P w = .ok (.tuple #[.bool false]) w) ∨
    ∃ e ∈ (leftOf es seen).toList, ∃ w1 : World, (Instr.next (.pointer (some ⟨it, 0, none⟩)) false ty).run P w = .ok (.tuple #[.bool true, e.key, e.val]) w1 ∧ w1.heap[it]? = some (.mapIter (some bm) since (seen.push e.born) clock) ∧ (∀ k, k ≠ it → w1.heap[k]? = w.heap[k]?) ∧ w1.os = w.os ∧ w1.output = w.output ∧ w1.heap.size = w.heap.size := by
  simp only [Instr.next, getObj, Sem.run_bind, Sem.run, hit, hb, Result.andThen, next_test_false seen es since c0 hold hsc, Bool.false_eq_true, if_false]
  unfold leftOf
  have hmem : ∀ x ∈ (Array.filter (fun e => !seen.contains e.born) es).toList, x.born < since := fun x hx => hold x (by simp at hx ⊢; exact hx.1)
  generalize Array.filter (fun e => !seen.contains e.born) es = L at hmem ⊢
  have e1 : L.filter (fun x => decide (x.born < since)) = L := Array.filter_eq_self.2 (fun x hx => by simpa using hmem x (by simpa using hx))
  have e2 : L.filter (fun x => decide (x.born ≥ since)) = #[] := by
    rw [Array.filter_eq_empty_iff]
    intro x hx
    have := hmem x (by simpa using hx)
    simp
    omega
  simp only [e1, e2, Array.append_empty]
  by_cases h0 : L.size = 0
  · left
    have : L = #[] := Array.eq_empty_of_size_eq_zero h0
    subst this
    refine ⟨rfl, ?_⟩
    simp [choose, Sem.run, Question.forced]
  · right
    have hne : L.isEmpty = false := by simp [Array.isEmpty, h0]
    simp only [hne, Bool.false_eq_true, if_false, Array.empty_append, Array.size_map]
    have hch : ∃ (j : Nat) (w1 : World), j < L.size ∧ w1.Alike w ∧ (choose (Question.mapNext L.size)).run P w = .ok j w1 := by
      by_cases hf : L.size ≤ 1
      · exact ⟨0, w, by omega, ⟨rfl, rfl, rfl⟩, by simp [choose, Sem.run, Question.forced, hf]⟩
      · exact ⟨_, w.drew, Nat.mod_lt _ (by omega), ⟨rfl, rfl, rfl⟩, by
          simp only [choose, Sem.run, Question.forced, decide_eq_true_eq, hf, if_false, Question.cut]
          rfl⟩
    obtain ⟨j, w1, hj, hal, hrun⟩ := hch
    have hil : it < w.heap.size := lt_of_block hit
    have hit1 : w1.heap[it]? = some (.mapIter (some bm) since seen c0) := by rw [hal.1]; exact hit
    have hset : ∀ o', (setObj it o').run P w1 = .ok () (mapSet w1 it o') := fun o' => by
      simp only [setObj, Sem.run, hit1]
      rfl
    refine ⟨L[j], by simp, mapSet w1 it (.mapIter (some bm) since (seen.push L[j].born) clock), ?_, mapSet_same _ _ _ (by rw [hal.1]; exact hil), fun k hk => by rw [mapSet_other _ _ _ _ hk, hal.1], hal.2.1, hal.2.2, by simp [mapSet, hal.1]⟩
    simp only [hrun, Array.getElem?_map, Array.getElem?_eq_getElem hj, Option.map_some, Sem.run_bind, hset, Result.andThen]
    rfl
theorem entry_at {P : Program} (w : World) (it bm since : Nat) (seen : Array Nat) (es : Array MapEntry) (clock : Nat) (e : MapEntry) (hit : w.heap[it]? = some (.mapIter (some bm) since (seen.push e.born) clock)) (hb : w.heap[bm]? = some (.map es clock)) (he : e ∈ es.toList) (hn : (es.toList.map (·.born)).Nodup) :
    (Instr.entry (.pointer (some ⟨it, 0, none⟩))).run P w = .ok (.tuple #[e.key, e.val]) w := by
  have hf : es.find? (·.born == e.born) = some e := by rw [← Array.find?_toList]; exact find_born e es.toList hn he
  simp only [Instr.entry, getObj, Sem.run_bind, Sem.run, hit, hb, Result.andThen, Array.back?_push, bne_self_eq_false, Bool.false_eq_true, if_false, hf]
  rfl
end Go.Proofs.YtleenphlgbklmabGreatDoor

namespace Go.Proofs.YtleenphlgbklmabGreatDoor
open Go.RowKit

theorem tEs_mem {kv : List (ByteArray × ByteArray)} {e : MapEntry} (h : e ∈ (tEs kv).toList) : ∃ j, j < kv.length ∧ e = tEnt kv j := by
  simp only [tEs, List.mem_map, List.mem_range] at h
  obtain ⟨j, hj, rfl⟩ := h
  exact ⟨j, hj, rfl⟩
theorem tEs_nodup (kv : List (ByteArray × ByteArray)) : ((tEs kv).toList.map (·.born)).Nodup := by
  have : (tEs kv).toList.map (·.born) = List.range kv.length := by
    simp only [tEs, List.map_map]
    exact List.map_id _
  rw [this]
  exact List.nodup_range
theorem Tryz.partT (x : ByteArray) (w : World) : (part 9 #[.string x] 0).run Tryz.prog w = .ok (.string x) w := by kernel_rfl
theorem eqT1 (x : ByteArray) (w : World) (d : Nat) : (Op.equalIn (d + 1) 9 (.string x) (.string x)).run Tryz.prog w = .ok true w := by
  rw [Op.equalIn]
  simp [run_underlying Tryz.underlying9, ba_beq]
theorem eqT2 (x : ByteArray) (w : World) (d : Nat) : (Op.equalIn (d + 1 + 1) 68 (.agg #[.string x]) (.agg #[.string x])).run Tryz.prog w = .ok true w := by
  rw [Op.equalIn]
  simp [run_underlying Tryz.underlying68, Tryz.partT, eqT1, Result.andThen]
theorem neT (x : ByteArray) (w : World) : (binOp .neq 68 (.agg #[.string x]) (.agg #[.string x])).run Tryz.prog w = .ok (.bool false) w := by
  have h : (Op.equal 68 (.agg #[.string x]) (.agg #[.string x])).run Tryz.prog w = .ok true w := eqT2 x w 9998
  simp [binOp, h, Result.andThen]
set_option maxRecDepth 20000 in
set_option maxHeartbeats 4000000 in
theorem mequal_sx {w : World} {m1 m2 : Nat} {kv : List (ByteArray × ByteArray)} (h1 : SM w m1 kv) (h2 : SM w m2 kv) :
    Calls Tryz.prog 31 #[.map (some m1), .map (some m2)] w fun e w' => e = .returned (.bool true) ∧ Kept w w' := by
  have hrg := run_range_map (P := Tryz.prog) w 60 9 68 m1 (tEs kv) kv.length Tryz.underlying60 h1.mp
  have hts : (tEs kv).size = kv.length := by simp [tEs]
  have hl1 : (Builtin.len_ #[60] 3 #[.map (some m1)]).run Tryz.prog w = .ok (.int .i64 (kv.length : Int)) w := by
    simp [Builtin.len_, run_underlying Tryz.underlying60, MapKept.run_getObj_map h1.mp, Result.andThen, hts, goInt]
  have hl2 : (Builtin.len_ #[60] 3 #[.map (some m2)]).run Tryz.prog w = .ok (.int .i64 (kv.length : Int)) w := by
    simp [Builtin.len_, run_underlying Tryz.underlying60, MapKept.run_getObj_map h2.mp, Result.andThen, hts, goInt]
  have H1 : Hid _ := h1
  have H2 : Hid _ := h2
  clear h1 h2
  go_enter Tryz.func31, Tryz.ntmps31
  go_wp2_with fail
  clear hl1 hl2 hrg
  have hit0 := heap_alloc_new w (.mapIter (some m1) kv.length #[] kv.length)
  have hk0 : Kept w (w.alloc (.mapIter (some m1) kv.length #[] kv.length)) := Kept.alloc _ _
  generalize w.alloc (.mapIter (some m1) kv.length #[] kv.length) = W at *
  go_loopw [] (fun w' => ∃ seen : Array Nat, Hid (w'.heap[w.heap.size]? = some (.mapIter (some m1) kv.length seen kv.length)) ∧ Hid (Kept w w')) (fun w' => (leftOf (tEs kv) (w'.iterSeen w.heap.size)).size)
  case atStart => exact ⟨#[], hit0, hk0⟩
  case round =>
    clear hit0 hk0
    obtain ⟨seen, HIT, HK⟩ := hrel
    have hb1 : wr.heap[m1]? = some (.map (tEs kv) kv.length) := HK.out.blk H1.out.mp
    have law := next_at (P := Tryz.prog) wr 0 w.heap.size m1 kv.length kv.length seen (tEs kv) kv.length HIT.out hb1 (fun x hx => by obtain ⟨i, hi, rfl⟩ := tEs_mem hx; exact hi) (Nat.le_refl _)
    rcases law with ⟨h0, hrun⟩ | ⟨e, he, w1, hrun, hit1, hot, hos, hou, hsz⟩
    · have hrun' : ∀ ty, (Instr.next (.pointer (some ⟨w.heap.size, 0, none⟩)) false ty).run Tryz.prog wr = .ok (.tuple #[.bool false]) wr := fun _ => hrun
      clear hrun hb1 h0
      go_wp2
      go_ret
      exact ⟨rfl, HK.out⟩
    · obtain ⟨i, hi, rfl⟩ := tEs_mem (mem_left he).1
      have hrun' : ∀ ty, (Instr.next (.pointer (some ⟨w.heap.size, 0, none⟩)) false ty).run Tryz.prog wr = .ok (.tuple #[.bool true, .string (kAt kv i).1, .agg #[.string (kAt kv i).2]]) w1 := fun _ => hrun
      have hk1 : Kept w w1 := ⟨hos.trans HK.out.os, hou.trans HK.out.output, by rw [hsz]; exact HK.out.size, fun k hk => (hot k (by omega)).trans (HK.out.block k hk)⟩
      have hb2 : w1.heap[m1]? = some (.map (tEs kv) kv.length) := hk1.blk H1.out.mp
      have hen : (Instr.entry (.pointer (some ⟨w.heap.size, 0, none⟩))).run Tryz.prog w1 = .ok (.tuple #[.string (kAt kv i).1, .agg #[.string (kAt kv i).2]]) w1 := entry_at w1 w.heap.size m1 kv.length seen (tEs kv) kv.length (tEnt kv i) hit1 hb2 (mem_left he).1 (tEs_nodup kv)
      have hm2 : ∀ W, Kept w W → (Instr.lookup 60 (.map (some m2)) (.string (kAt kv i).1) true).run Tryz.prog W = .ok (.tuple #[.agg #[.string (kAt kv i).2], .bool true]) W := fun W hW => by
        have := run_tlook 60 Tryz.underlying60 W m2 kv (kAt kv i).1 ⟨hW.blk H2.out.mp, H2.out.nd⟩
        rw [this]
        have gd : kAt kv i = kv[i] := by simp [kAt, List.getD, hi]
        have : kv.findIdx? (fun x => sameS x.1 (kAt kv i).1) = some i := by
          rw [List.findIdx?_eq_some_iff_getElem]
          refine ⟨hi, (sameS_iff _ _).2 (by rw [gd]), ?_⟩
          intro j hj z
          have z := (sameS_iff _ _).1 z
          have := (List.pairwise_iff_getElem.1 H2.out.nd) j i (by simp; omega) (by simpa using hi) hj
          simp at this
          rw [gd] at z
          exact this z
        rw [this]
      have HIT1 : Hid _ := hit1
      have HK1 : Hid _ := hk1
      have HM : Hid _ := hm2
      have HME : Hid _ := he
      have HSE : Hid _ := HIT.out
      clear hrun hb1 hb2 hit1 hk1 hot hos hou hsz he hm2
      have hka : Kept w (w1.alloc (.cells #[.string (kAt kv i).2] 68)) := HK1.out.trans (Kept.alloc _ _)
      have hkb : Kept w ((w1.alloc (.cells #[.string (kAt kv i).2] 68)).alloc (.cells #[.string (kAt kv i).2] 68)) := hka.trans (Kept.alloc _ _)
      have hlk := HM.out _ hka
      have hne := neT (kAt kv i).2 ((w1.alloc (.cells #[.string (kAt kv i).2] 68)).alloc (.cells #[.string (kAt kv i).2] 68))
      have HKB : Hid _ := hkb
      have HIF : Hid (((w1.alloc (.cells #[.string (kAt kv i).2] 68)).alloc (.cells #[.string (kAt kv i).2] 68)).heap[w.heap.size]? = some (.mapIter (some m1) kv.length (seen.push (tEnt kv i).born) kv.length)) := ((Kept.alloc _ _).trans (Kept.alloc _ _)).blk HIT1.out
      clear hka hkb HM HK1
      go_wp2_with fail
      refine ⟨⟨_, HIF.out, HKB.out⟩, ?_⟩
      have q1 : ((w1.alloc (.cells #[.string (kAt kv i).2] 68)).alloc (.cells #[.string (kAt kv i).2] 68)).iterSeen w.heap.size = seen.push (tEnt kv i).born := by
        unfold World.iterSeen
        rw [HIF.out]
      have q2 : wr.iterSeen w.heap.size = seen := by
        unfold World.iterSeen
        rw [HSE.out]
      rw [q1, q2]
      exact left_shrinks (tEs kv) seen (tEnt kv i) HME.out
end Go.Proofs.YtleenphlgbklmabGreatDoor
