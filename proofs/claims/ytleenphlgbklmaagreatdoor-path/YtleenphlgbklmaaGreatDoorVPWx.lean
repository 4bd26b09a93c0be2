import Derived.Deep.RegionHeld3
import Derived.Test.YtleenphlgbklmaaGreatDoorVPKw
import Derived.Deep.RegionHeld2
import Derived.Test.YtleenphlgbklmaaGreatDoorVPSign
import Derived.Test.YtleenphlgbklmaaGreatDoorVPX
set_option linter.unusedVariables false
set_option linter.unusedSimpArgs false
namespace Go.Proofs.YtleenphlgbklmaaGreatDoor
open Go.RowKit

theorem Tryz.mkFr (w : World) : (Instr.makeMap 380 none).run Tryz.prog w = .ok (.map (some w.heap.size)) (w.alloc (.map #[] 0)) := by kernel_rfl
theorem VV.none (w : World) (ad : List Nat) (σ : St) : VV (w.alloc (.map #[] 0)) w.heap.size ad σ [] := ⟨[], heap_alloc_new _ _, trivial, fun e he => by simp at he⟩
theorem Gw.drop {ad ad' : List Nat} {w w1 w' : World} {mb : Nat} (h : Kept w w1) (g : Gw (fun q => q = mb) ad ad' w1 w') (hm : w.heap.size ≤ mb) : Gw (fun _ => False) ad ad' w w' := by
  obtain ⟨⟨u, hu, hq⟩, k⟩ := g
  exact ⟨⟨u, hu, fun q z => Nat.le_trans h.size (hq q z)⟩, Kt.drop h k hm⟩
theorem find_sx {w : World} {ad : List Nat} {own : List Bd} {gv : Gv} {p : Option Addr} {gm : Nat} {n : ByteArray} {r : TR} (hC : CH w (RV ad) own (.pointer p)) (hG : GM w gm ad gv) (h : findF n gv own = some r) :
    Calls Tryz.prog 165 #[.agg #[.pointer p, .map (some gm)], .string n] w fun e w' => Kept w w' ∧ ∃ T u, e = .returned (.tuple #[.iface T u, .bool true]) ∧ RV ad r (.iface T u) := by
  rw [findF_own] at h
  cases hg : findG n gv with
  | some g =>
    obtain ⟨v, hv, _⟩ := (look_gm hG n).1 g hg
    refine (find_own (x := v) (y := .bool true) hC (fun W hW => ?_)).mono ?_
    · obtain ⟨v', hv', hl⟩ := (look_gm (hG.kt (Kt.of_kept (ad := ad) (S := fun _ => False) hW) id) n).1 g hg
      rw [hv.det hv']
      exact hl
    · rintro e w' ⟨hk, h1, h2⟩
      refine ⟨hk, ?_⟩
      cases ho : findO n own with
      | some q =>
        rw [ho] at h
        simp only [Option.some.injEq] at h
        subst h
        obtain ⟨v, rfl, hv⟩ := h1 _ ho
        obtain ⟨T, u, rfl⟩ := hv.iface
        exact ⟨T, u, rfl, hv⟩
      | none =>
        rw [ho] at h
        simp only [hg, Option.some.injEq] at h
        subst h
        obtain ⟨T, u, rfl⟩ := hv.iface
        exact ⟨T, u, h2 ho, hv⟩
  | none =>
    refine (find_own (x := .nilIface) (y := .bool false) hC (fun W hW => ?_)).mono ?_
    · exact (look_gm (hG.kt (Kt.of_kept (ad := ad) (S := fun _ => False) hW) id) n).2 hg
    · rintro e w' ⟨hk, h1, h2⟩
      refine ⟨hk, ?_⟩
      cases ho : findO n own with
      | some q =>
        rw [ho] at h
        simp only [Option.some.injEq] at h
        subst h
        obtain ⟨v, rfl, hv⟩ := h1 _ ho
        obtain ⟨T, u, rfl⟩ := hv.iface
        exact ⟨T, u, rfl, hv⟩
      | none =>
        rw [ho, hg] at h
        simp at h
set_option maxRecDepth 20000 in
set_option maxHeartbeats 2000000 in
theorem tname_sx {ω : Type} {A : Nat → Addr} {B : Nat} {K : World → ω → Prop} (hK : KOk K) {w : World} {ad : List Nat} {σ : St} {own : List Bd} {gv : Gv} {p : Option Addr} {gm : Nat} {o : ω} (hT : TI A B K w ad σ own gv p gm o) {n : ByteArray} {loc eb : Nat} (hb : w.heap[eb]? = some (.cells #[.int .i64 1, .string n, .int .i64 loc] 262 (0, 0))) {r : Oc (TR × St)} (h : nameF gv n own σ = some r) :
    Calls Tryz.prog 201 #[.pointer (some ⟨eb, 0, none⟩), .agg #[.pointer p, .map (some gm)]] w fun e w' => TyO A B K ad w e w' o r := by
  simp only [nameF, Option.bind_eq_some_iff] at h
  obtain ⟨s, hs, big, hbig, h⟩ := h
  have hka : Kept w (w.alloc (.cells #[.pointer p, .map (some gm)] 244)) := Kept.alloc _ _
  have hn0 := heap_alloc_new w (.cells #[.pointer p, .map (some gm)] 244)
  go_enter Tryz.func201, Tryz.ntmps201
  go_wp2_with fail
  generalize w.alloc (.cells #[.pointer p, .map (some gm)] 244) = W at *
  have hkd : Kept w W.drew := hka.trans (Kept.drew W)
  have hn0 := (Kept.drew W).blk hn0
  have hbd := hkd.blk hb
  have hT1 := hT.kept hK hkd
  have HC : Hid _ := find_sx hT1.ch hT1.gm hs
  have HT1 : Hid _ := hT1
  have HKD : Hid _ := hkd
  have HKA : Hid _ := hka
  have HT : Hid _ := hT
  have HBIG : Hid _ := hbig
  have HH : Hid _ := h
  have HKEEP : Hid (∀ w2, Kept W.drew w2 → w2.cell? ⟨w.heap.size, 0, none⟩ = some (.pointer p) ∧ w2.cell? ⟨w.heap.size, 1, none⟩ = some (.map (some gm)) ∧ w2.cell? ⟨eb, 1, none⟩ = some (.string n)) := fun w2 k => by
    have e1 := k.blk hn0
    have e2 := k.blk hbd
    exact ⟨by simp [World.cell?, e1], by simp [World.cell?, e1], by simp [World.cell?, e2]⟩
  have c0 : W.drew.cell? ⟨w.heap.size, 0, none⟩ = some (.pointer p) := by simp [World.cell?, hn0]
  have c1 : W.drew.cell? ⟨w.heap.size, 1, none⟩ = some (.map (some gm)) := by simp [World.cell?, hn0]
  have c2 : W.drew.cell? ⟨eb, 1, none⟩ = some (.string n) := by simp [World.cell?, hbd]
  clear hT1 hka hkd hT hbig h hs hb hbd hn0
  go_region_held3 (fun w' => w'.cell? ⟨w.heap.size, 0, none⟩ = some (.pointer p) ∧ w'.cell? ⟨w.heap.size, 1, none⟩ = some (.map (some gm)) ∧ w'.cell? ⟨eb, 1, none⟩ = some (.string n)) (go_keep) (first | (go_at_call 165; refine Calls.mono HC.out ?_; rintro e w2 ⟨hk2, T, u, rfl, hv2⟩; obtain ⟨j0, j1, j2⟩ := HKEEP.out w2 hk2; have HK2 : Hid _ := hk2; have HV2 : Hid _ := hv2; clear hk2 hv2 HC))
  all_goals
    have hkk := HKD.out.trans HK2.out
    have hT2 := HT.out.kept hK hkk
    have HT2 : Hid _ := hT2
    have HR : Hid _ := rbig_sx HBIG.out w2 ad _ hT2.ga hT2.sx HV2.out
    have HKK : Hid _ := hkk
    clear hkk hT2 HT1 HK2 HKEEP j0 j1 j2 c0 c1 c2
    go_wp2_with fail
    refine Calls.mono HR.out ?_
    rintro e w3 (⟨rfl, he, hk3⟩ | ⟨rfl, rfl, hs3, hk3⟩)
    · have hh := HH.out
      simp only [if_true, Option.some.injEq] at hh
      subst hh
      rw [show e = _ from he]
      have HF : Hid (TyO A B K ad w (thrown (.iface 407 (.pointer (some (A 4))))) w3 o (.er 4)) := ⟨rfl, hK _ _ _ _ HT2.out.k hk3, ((Gk.ofKt (Kt.of_kept HKK.out)).trans (Gk.ofKt hk3)).kw⟩
      clear he hk3 HR
      go_wp2
      exact ⟨rfl, HF.out⟩
    · have hh := HH.out
      simp only [Bool.false_eq_true, if_false, Option.bind_eq_some_iff, Option.some.injEq] at hh
      obtain ⟨q, hq, rfl⟩ := hh
      have m1 := Tryz.mkFr w3
      have hka : Kept w3 (w3.alloc (.map #[] 0)) := Kept.alloc _ _
      have HI : Hid _ := ins_sx 500 σ s [] q hq (w3.alloc (.map #[] 0)) ad _ w3.heap.size (hs3.kept hka) HT2.out.ws HV2.out (VV.none w3 ad σ)
      have HK3 : Hid _ := hk3
      have HKA3 : Hid _ := hka
      have HKW : Hid _ := hK _ _ _ _ HT2.out.k hk3
      clear hs3 hk3 hka hq HR
      go_wp2_with fail
      refine Calls.mono HI.out ?_
      rintro e w4 ⟨v4, ad4, rfl, hv4, hs4, hw4, hm4, hg4⟩
      have hg5 := Gw.drop HKA3.out hg4 (Nat.le_refl _)
      have HF : Hid (TyO A B K ad w (.returned v4) w4 o (.ok (q.1, q.2.1))) := ⟨v4, ad4, rfl, hv4, hs4, hw4, hK _ _ _ _ HKW.out hg5.kt, ((Gk.ofKt (Kt.of_kept HKK.out)).trans (Gk.ofKt HK3.out)).trans (Gk.of hg5)⟩
      clear hv4 hs4 hw4 hm4 hg4 hg5 HI
      go_wp2
      go_ret
      exact HF.out
end Go.Proofs.YtleenphlgbklmaaGreatDoor

namespace Go.Proofs.YtleenphlgbklmaaGreatDoor
open Go.RowKit

/-- a kind of block that typing does not change. -/
def othT (e : TypeId) : Bool := !(e == 221 || e == 225 || e == 229 || e == 233 || e == 123 || e == 61)
theorem Gk.oth {B : Nat} {a b : List Nat} {w1 w2 : World} (h : Gk B a b w1 w2) {k : Nat} {cs : Array Value} {e : TypeId} {f : Nat × Nat} (he : othT e = true) (hk : w1.heap[k]? = some (.cells cs e f)) : w2.heap[k]? = some (.cells cs e f) := h.kw.blk k _ hk (by
    rintro ⟨cs', e', f', hx, ht⟩
    simp only [Obj.cells.injEq] at hx
    obtain ⟨_, rfl, _⟩ := hx
    rcases ht with rfl | rfl <;> simp [othT] at he) (by
    rintro ⟨cs', e', f', hx, ht⟩
    simp only [Obj.cells.injEq] at hx
    obtain ⟨_, rfl, _⟩ := hx
    rcases ht with rfl | rfl | rfl | rfl <;> simp [othT] at he)
/-- a frame of typing: what it was handed, and the expression. -/
structure FX (V : World) (b1 b2 eb : Nat) (fl : Int) (wv : Value) (p : Option Addr) (gm : Nat) (cs : Array Value) (et : TypeId) : Prop where
  by0 : V.heap[b1]? = some (.cells #[.int .i64 fl, wv] 172 (0, 0))
  sc : V.heap[b2]? = some (.cells #[.pointer p, .map (some gm)] 244 (0, 0))
  ex : V.heap[eb]? = some (.cells cs et (0, 0))
section
variable {V V' : World} {b1 b2 eb : Nat} {fl : Int} {wv : Value} {p : Option Addr} {gm : Nat} {cs : Array Value} {et : TypeId}
theorem FX.gk (h : FX V b1 b2 eb fl wv p gm cs et) {B : Nat} {a b : List Nat} (g : Gk B a b V V') (he : othT et = true) : FX V' b1 b2 eb fl wv p gm cs et := ⟨g.oth (by decide) h.by0, g.oth (by decide) h.sc, g.oth he h.ex⟩
theorem FX.kept (h : FX V b1 b2 eb fl wv p gm cs et) (k : Kept V V') : FX V' b1 b2 eb fl wv p gm cs et := ⟨k.blk h.by0, k.blk h.sc, k.blk h.ex⟩
theorem FX.c (h : FX V b1 b2 eb fl wv p gm cs et) : V.cell? ⟨b1, 0, none⟩ = some (.int .i64 fl) ∧ V.cell? ⟨b1, 1, none⟩ = some wv ∧ V.cell? ⟨b2, 0, none⟩ = some (.pointer p) ∧ V.cell? ⟨b2, 1, none⟩ = some (.map (some gm)) := ⟨by simp [World.cell?, h.by0], by simp [World.cell?, h.by0], by simp [World.cell?, h.sc], by simp [World.cell?, h.sc]⟩
theorem FX.x (h : FX V b1 b2 eb fl wv p gm cs et) {i : Nat} {v : Value} (hv : cs[i]? = some v) : V.cell? ⟨eb, i, none⟩ = some v := by simp [World.cell?, h.ex, hv]
end
theorem fx_start (w : World) (eb : Nat) (fl : Int) (wv : Value) (p : Option Addr) (gm : Nat) {cs : Array Value} {et : TypeId} (hb : w.heap[eb]? = some (.cells cs et (0, 0))) : FX ((w.alloc (.cells #[.int .i64 fl, wv] 172)).alloc (.cells #[.pointer p, .map (some gm)] 244)) w.heap.size (w.heap.size + 1) eb fl wv p gm cs et ∧ Kept w ((w.alloc (.cells #[.int .i64 fl, wv] 172)).alloc (.cells #[.pointer p, .map (some gm)] 244)) := by
  have k1 : Kept w (w.alloc (.cells #[.int .i64 fl, wv] 172)) := Kept.alloc _ _
  have k2 : Kept (w.alloc (.cells #[.int .i64 fl, wv] 172)) ((w.alloc (.cells #[.int .i64 fl, wv] 172)).alloc (.cells #[.pointer p, .map (some gm)] 244)) := Kept.alloc _ _
  have hs : (w.alloc (.cells #[.int .i64 fl, wv] 172)).heap.size = w.heap.size + 1 := by simp
  refine ⟨⟨k2.blk (heap_alloc_new _ _), ?_, (k1.trans k2).blk hb⟩, k1.trans k2⟩
  rw [← hs]
  exact heap_alloc_new _ _
section
variable {ω : Type} (A : Nat → Addr) (B : Nat) (K : World → ω → Prop) (gv : Gv) (fl : Int) (wv : Value)
/-- the program's typeOf does what the mirror does. -/
def STf (f : X → List Bd → St → ω → Option (Oc (TR × St) × ω)) : Prop := ∀ (x : X) (own : List Bd) (σ : St) (o : ω) (res : Oc (TR × St) × ω), f x own σ o = some res → ∀ (w : World) (ad : List Nat) (v : Value) (p : Option Addr) (gm : Nat), PX w (fun _ => True) x v → TI A B K w ad σ own gv p gm o →
  Calls Tryz.prog 127 #[.agg #[.int .i64 fl, wv], v, .agg #[.pointer p, .map (some gm)]] w fun e w' => TyO A B K ad w e w' res.2 res.1
end
theorem PX.gk {w w' : World} {B : Nat} {a b : List Nat} (g : Gk B a b w w') {x : X} {v : Value} (h : PX w (fun _ => True) x v) : PX w' (fun _ => True) x v := h.keepT g.x
theorem XKeep.kept {w w' : World} (k : Kept w w') : XKeep w w' := fun _ _ _ _ _ h => k.blk h
theorem STf.call {ω : Type} {A : Nat → Addr} {B : Nat} {K : World → ω → Prop} {gv : Gv} {fl : Int} {wv : Value} {f : X → List Bd → St → ω → Option (Oc (TR × St) × ω)} (hf : STf A B K gv fl wv f) {x : X} {own : List Bd} {σ : St} {o o1 : ω} {r1 : Oc (TR × St)} (h : f x own σ o = some (r1, o1)) {w : World} {ad : List Nat} {v : Value} {p : Option Addr} {gm : Nat} (hx : PX w (fun _ => True) x v) (hT : TI A B K w ad σ own gv p gm o) :
    Calls Tryz.prog 127 #[.agg #[.int .i64 fl, wv], v, .agg #[.pointer p, .map (some gm)]] w fun e w' => (∃ j, r1 = .er j ∧ e = thrown (.iface 407 (.pointer (some (A j)))) ∧ K w' o1 ∧ Kw B ad w w') ∨ (∃ q T u ad', r1 = .ok q ∧ e = .returned (.iface T u) ∧ RV ad' q.1 (.iface T u) ∧ TI A B K w' ad' q.2 own gv p gm o1 ∧ Gk B ad ad' w w') := by
  refine (hf x own σ o (r1, o1) h w ad v p gm hx hT).mono ?_
  intro e w' hE
  cases r1 with
  | er j => exact .inl ⟨j, rfl, hE.1, hE.2.1, hE.2.2⟩
  | ok q =>
    obtain ⟨v', ad', rfl, h2, h3, h4, h5, h6⟩ := hE
    obtain ⟨T, u, rfl⟩ := h2.iface
    exact .inr ⟨q, T, u, ad', rfl, rfl, h2, hT.to h6 h3 h4 h5, h6⟩
/-- a new arrow, laid behind. -/
theorem SX.newa {w : World} {ad : List Nat} {σ : St} (hs : SX w ad σ) (hw : WS σ) {x y : TR} {p q : Value} (hp : RV ad x p) (hq : RV ad y q) : SX (w.alloc (.cells #[.nilIface, p, q] 233)) (ad ++ [w.heap.size]) (σ ++ [⟨.ar x y, none⟩]) :=
  (hs.kept (Kept.alloc _ _)).add hw (fun z => by have := hs.lt z; omega) (heap_alloc_new _ _) ⟨p, q, hp, hq, rfl⟩
theorem SX.newp {w : World} {ad : List Nat} {σ : St} (hs : SX w ad σ) (hw : WS σ) {x y : TR} {p q : Value} (hp : RV ad x p) (hq : RV ad y q) : SX (w.alloc (.cells #[.nilIface, p, q] 229)) (ad ++ [w.heap.size]) (σ ++ [⟨.pr x y, none⟩]) :=
  (hs.kept (Kept.alloc _ _)).add hw (fun z => by have := hs.lt z; omega) (heap_alloc_new _ _) ⟨p, q, hp, hq, rfl⟩
theorem Gk.new {B : Nat} {ad : List Nat} (w : World) (o : Obj) : Gk B ad (ad ++ [w.heap.size]) w (w.alloc o) := Gk.of (Gw.snoc (Kt.of_kept (Kept.alloc _ _)) (Nat.le_refl _))
set_option maxRecDepth 20000 in
set_option maxHeartbeats 4000000 in
theorem tapp_sx {ω : Type} {A : Nat → Addr} {B : Nat} {K : World → ω → Prop} (hK : KOk K) {gv : Gv} {fl : Int} {wv : Value} {f : X → List Bd → St → ω → Option (Oc (TR × St) × ω)} (hf : STf A B K gv fl wv f) {x y : X} {own : List Bd} {σ : St} {o : ω} {res : Oc (TR × St) × ω} (h : appF f x y own σ o = some res) {w : World} {ad : List Nat} {p : Option Addr} {gm : Nat} (hT : TI A B K w ad σ own gv p gm o) {eb dpt : Nat} {vx vy : Value} (hb : w.heap[eb]? = some (.cells #[.int .i64 dpt, vx, vy] 280 (0, 0))) (hx : PX w (fun _ => True) x vx) (hy : PX w (fun _ => True) y vy) :
    Calls Tryz.prog 205 #[.agg #[.int .i64 fl, wv], .pointer (some ⟨eb, 0, none⟩), .agg #[.pointer p, .map (some gm)]] w fun e w' => TyO A B K ad w e w' res.2 res.1 := by
  simp only [appF, Option.bind_eq_some_iff] at h
  obtain ⟨⟨r1, o1⟩, h1, h⟩ := h
  obtain ⟨hF, hk0⟩ := fx_start w eb fl wv p gm hb
  obtain ⟨Tx, ux, rfl⟩ := hx.iface
  obtain ⟨Ty, uy, rfl⟩ := hy.iface
  go_enter Tryz.func205, Tryz.ntmps205
  go_wp2_with fail
  generalize (w.alloc (.cells #[.int .i64 fl, wv] 172)).alloc (.cells #[.pointer p, .map (some gm)] 244) = W at *
  have hkd : Kept w W.drew := hk0.trans (Kept.drew W)
  have hF := hF.kept (Kept.drew W)
  have hT1 := hT.kept hK hkd
  have hPY := PX.keepT (XKeep.kept hkd) hy
  have hG0 : Gk B ad ad w W.drew := Gk.ofKt (Kt.of_kept hkd)
  have HC : Hid (Calls Tryz.prog 127 #[.agg #[.int .i64 fl, wv], .iface Tx ux, .agg #[.pointer p, .map (some gm)]] W.drew fun e w2 => (∃ a, e = thrown (.iface 407 (.pointer (some a))) ∧ TyO A B K ad w (thrown (.iface 407 (.pointer (some a)))) w2 res.2 res.1) ∨ (∃ T2 u2, e = .returned (.iface T2 u2) ∧ w2.cell? ⟨w.heap.size, 0, none⟩ = some (.int .i64 fl) ∧ w2.cell? ⟨w.heap.size, 1, none⟩ = some wv ∧ w2.cell? ⟨w.heap.size + 1, 0, none⟩ = some (.pointer p) ∧ w2.cell? ⟨w.heap.size + 1, 1, none⟩ = some (.map (some gm)) ∧ w2.cell? ⟨eb, 1, none⟩ = some (.iface Tx ux) ∧ Hid (∃ q ad2, r1 = .ok q ∧ RV ad2 q.1 (.iface T2 u2) ∧ TI A B K w2 ad2 q.2 own gv p gm o1 ∧ Gk B ad ad2 w w2 ∧ FX w2 w.heap.size (w.heap.size + 1) eb fl wv p gm #[.int .i64 dpt, .iface Tx ux, .iface Ty uy] 280 ∧ PX w2 (fun _ => True) y (.iface Ty uy)))) := by
    refine (hf.call h1 (hx.keepT (XKeep.kept hkd)) hT1).mono ?_
    rintro e w2 (⟨j, rfl, rfl, hk, hw⟩ | ⟨q, T2, u2, ad2, rfl, rfl, hv, hT2, hg⟩)
    · simp only [Option.some.injEq] at h
      subst h
      exact .inl ⟨_, rfl, rfl, hk, (hG0.trans (Gk.ofKw hw)).kw⟩
    · have hF2 := hF.gk hg (by decide)
      obtain ⟨d0, d1, d2, d3⟩ := hF2.c
      exact .inr ⟨T2, u2, rfl, d0, d1, d2, d3, hF2.x (i := 1) rfl, q, ad2, rfl, hv, hT2, hG0.trans hg, hF2, hPY.gk hg⟩
  obtain ⟨c0, c1, c2, c3⟩ := hF.c
  have c4 := hF.x (i := 1) (v := .iface Tx ux) rfl
  have HFF : Hid _ := hf
  have HH : Hid _ := h
  clear hT hT1 hF hk0 hkd hx hy h1 hf h hb hPY hG0
  go_region_held2 (fun w' => w'.cell? ⟨w.heap.size, 0, none⟩ = some (.int .i64 fl) ∧ w'.cell? ⟨w.heap.size, 1, none⟩ = some wv ∧ w'.cell? ⟨w.heap.size + 1, 0, none⟩ = some (.pointer p) ∧ w'.cell? ⟨w.heap.size + 1, 1, none⟩ = some (.map (some gm)) ∧ w'.cell? ⟨eb, 1, none⟩ = some (.iface Tx ux)) (go_keep) (first | (go_at_call 127; refine Calls.mono HC.out ?_; rintro e w2 (⟨a, rfl, hE⟩ | ⟨T2, u2, rfl, d0, d1, d2, d3, d4, HR⟩); exact ⟨rfl, hE⟩; clear HC))
  all_goals
    obtain ⟨q, ad2, rfl, hv2, hT2, hg2, hF2, hP2⟩ := HR.out
    have hh := HH.out
    simp only [Option.bind_eq_some_iff] at hh
    obtain ⟨⟨r3, o3⟩, h3, hh⟩ := hh
    have hs2 := hT2.sx
    have hV : Kept w2 (w2.alloc (.cells #[.nilIface, .string { data := #[] }, .bool false] 221)) := Kept.alloc _ _
    have hVd : Kept w2 (w2.alloc (.cells #[.nilIface, .string { data := #[] }, .bool false] 221)).drew := hV.trans (Kept.drew _)
    have hgn : Gk B ad2 (ad2 ++ [w2.heap.size]) w2 (w2.alloc (.cells #[.nilIface, .string { data := #[] }, .bool false] 221)).drew := (Gk.new w2 _).trans (Gk.ofKt (Kt.of_kept (Kept.drew _)))
    have hrl : RV (ad2 ++ [w2.heap.size]) (.nd .vr q.2.length) (.iface 216 (.pointer (some ⟨w2.heap.size, 0, none⟩))) := RV.last hs2.len .vr
    have hT3 : TI A B K (w2.alloc (.cells #[.nilIface, .string { data := #[] }, .bool false] 221)).drew (ad2 ++ [w2.heap.size]) (q.2 ++ [newV]) own gv p gm o1 := hT2.to hgn ((hs2.newv hT2.ws false).kept (Kept.drew _)) (hT2.ws.add _) (hK _ _ [] _ hT2.k (Kt.of_kept hVd))
    have hg3 : Gk B ad (ad2 ++ [w2.heap.size]) w (w2.alloc (.cells #[.nilIface, .string { data := #[] }, .bool false] 221)).drew := hg2.trans hgn
    have hv3 : RV (ad2 ++ [w2.heap.size]) q.1 (.iface T2 u2) := hv2.up _
    have hF3 := hF2.kept hVd
    have hP3 := PX.keepT (XKeep.kept hVd) hP2
    go_wp2_with fail
    generalize (w2.alloc (.cells #[.nilIface, .string { data := #[] }, .bool false] 221)) = V at *
    have HC : Hid (Calls Tryz.prog 127 #[.agg #[.int .i64 fl, wv], .iface Ty uy, .agg #[.pointer p, .map (some gm)]] V.drew fun e w3 => (∃ a, e = thrown (.iface 407 (.pointer (some a))) ∧ TyO A B K ad w (thrown (.iface 407 (.pointer (some a)))) w3 res.2 res.1) ∨ (∃ T3 u3, e = .returned (.iface T3 u3) ∧ w3.cell? ⟨w.heap.size, 0, none⟩ = some (.int .i64 fl) ∧ w3.cell? ⟨w.heap.size, 1, none⟩ = some wv ∧ w3.cell? ⟨w.heap.size + 1, 0, none⟩ = some (.pointer p) ∧ w3.cell? ⟨w.heap.size + 1, 1, none⟩ = some (.map (some gm)) ∧ w3.cell? ⟨eb, 2, none⟩ = some (.iface Ty uy) ∧
        Hid (Calls Tryz.prog 221 #[.iface T2 u2, .iface 230 (.pointer (some ⟨w3.heap.size, 0, none⟩))] (w3.alloc (.cells #[.nilIface, .iface T3 u3, .iface 216 (.pointer (some ⟨w2.heap.size, 0, none⟩))] 233)) fun e w4 => (∃ a, e = thrown (.iface 407 (.pointer (some a))) ∧ TyO A B K ad w (thrown (.iface 407 (.pointer (some a)))) w4 res.2 res.1) ∨ (e = .returned (.tuple #[]) ∧ w4.cell? ⟨w.heap.size, 0, none⟩ = some (.int .i64 fl) ∧ w4.cell? ⟨w.heap.size, 1, none⟩ = some wv ∧ w4.cell? ⟨w.heap.size + 1, 0, none⟩ = some (.pointer p) ∧ w4.cell? ⟨w.heap.size + 1, 1, none⟩ = some (.map (some gm)) ∧ w4.cell? ⟨eb, 2, none⟩ = some (.iface Ty uy) ∧ Hid (TyO A B K ad w (.returned (.iface 216 (.pointer (some ⟨w2.heap.size, 0, none⟩)))) w4 res.2 res.1))))) := by
      refine (STf.call HFF.out h3 hP3 hT3).mono ?_
      rintro e w3 (⟨j, rfl, rfl, hk, hw⟩ | ⟨q3, T3, u3, ad3, rfl, rfl, hv4, hT4, hg4⟩)
      · simp only [Option.some.injEq] at hh
        subst hh
        exact .inl ⟨_, rfl, rfl, hk, (hg3.trans (Gk.ofKw hw)).kw⟩
      · have hF4 := hF3.gk hg4 (by decide)
        obtain ⟨e0, e1, e2, e3⟩ := hF4.c
        refine .inr ⟨T3, u3, rfl, e0, e1, e2, e3, hF4.x (i := 2) rfl, ?_⟩
        simp only [Option.bind_eq_some_iff] at hh
        obtain ⟨eo, heo, hh⟩ := hh
        have hs4 := hT4.sx
        have hrl4 := hg4.rv hrl
        have hs5 := hs4.newa hT4.ws hv4 hrl4
        have hka : Kept w3 (w3.alloc (.cells #[.nilIface, .iface T3 u3, .iface 216 (.pointer (some ⟨w2.heap.size, 0, none⟩))] 233)) := Kept.alloc _ _
        have hgn5 : Gk B ad3 (ad3 ++ [w3.heap.size]) w3 (w3.alloc (.cells #[.nilIface, .iface T3 u3, .iface 216 (.pointer (some ⟨w2.heap.size, 0, none⟩))] 233)) := Gk.new w3 _
        have hF5 := hF4.kept hka
        refine (eq_sx A B 500 _ _ _ eo heo _ (ad3 ++ [w3.heap.size]) _ _ (hgn5.ga hT4.ga) hs5 ((hg4.rv hv3).up _) (RV.last hs4.len .ar)).mono ?_
        intro e w4 hE
        cases eo with
        | er j =>
          simp only [Option.some.injEq] at hh
          subst hh
          obtain ⟨he, hk4⟩ := hE
          exact .inl ⟨_, he, rfl, hK _ _ _ _ (hK _ _ [] _ hT4.k (Kt.of_kept hka)) hk4, (((hg3.trans hg4).trans hgn5).trans (Gk.ofKt hk4)).kw⟩
        | ok σ1 =>
          simp only [Option.some.injEq] at hh
          subst hh
          obtain ⟨he, hs6, hk4⟩ := hE
          have hF6 := hF5.gk (Gk.ofKt (B := B) hk4) (by decide)
          obtain ⟨f0, f1, f2, f3⟩ := hF6.c
          exact .inr ⟨he, f0, f1, f2, f3, hF6.x (i := 2) rfl, _, _, rfl, hrl4.up _, hs6, WS.eq 500 (hT4.ws.add _) heo, hK _ _ _ _ (hK _ _ [] _ hT4.k (Kt.of_kept hka)) hk4, ((hg3.trans hg4).trans hgn5).trans (Gk.ofKt hk4)⟩
    obtain ⟨c0, c1, c2, c3⟩ := hF3.c
    have c4 := hF3.x (i := 2) (v := .iface Ty uy) rfl
    clear hs2 hV hVd hgn hrl hT3 hg3 hv3 hF3 hP3 hT2 hg2 hF2 hP2 hv2 h3 hh HR HFF HH d0 d1 d2 d3 d4
    go_region_held2 (fun w' => w'.cell? ⟨w.heap.size, 0, none⟩ = some (.int .i64 fl) ∧ w'.cell? ⟨w.heap.size, 1, none⟩ = some wv ∧ w'.cell? ⟨w.heap.size + 1, 0, none⟩ = some (.pointer p) ∧ w'.cell? ⟨w.heap.size + 1, 1, none⟩ = some (.map (some gm)) ∧ w'.cell? ⟨eb, 2, none⟩ = some (.iface Ty uy)) (go_keep) (first | (go_at_call 127; refine Calls.mono HC.out ?_; rintro e w3 (⟨a, rfl, hE⟩ | ⟨T3, u3, rfl, d0, d1, d2, d3, d4, HD⟩); exact ⟨rfl, hE⟩; clear HC) | (go_at_call 221; refine Calls.mono HD.out ?_; rintro e w4 (⟨a, rfl, hE⟩ | ⟨rfl, f0, f1, f2, f3, f4, HR⟩); exact ⟨rfl, hE⟩; clear HD))
    all_goals
      go_wp2
      go_ret
      exact HR.out
end Go.Proofs.YtleenphlgbklmaaGreatDoor

namespace Go.Proofs.YtleenphlgbklmaaGreatDoor
open Go.RowKit

set_option maxRecDepth 20000 in
set_option maxHeartbeats 4000000 in
theorem tif_sx {ω : Type} {A : Nat → Addr} {B : Nat} {K : World → ω → Prop} (hK : KOk K) {gv : Gv} {fl : Int} {wv : Value} {f : X → List Bd → St → ω → Option (Oc (TR × St) × ω)} (hf : STf A B K gv fl wv f) {x y z : X} {own : List Bd} {σ : St} {o : ω} {res : Oc (TR × St) × ω} (h : ifF f x y z own σ o = some res) {w : World} {ad : List Nat} {p : Option Addr} {gm : Nat} (hT : TI A B K w ad σ own gv p gm o) {eb dpt : Nat} {vx vy vz : Value} (hb : w.heap[eb]? = some (.cells #[.int .i64 dpt, vx, vy, vz] 332 (0, 0))) (hx : PX w (fun _ => True) x vx) (hy : PX w (fun _ => True) y vy) (hz : PX w (fun _ => True) z vz) :
    Calls Tryz.prog 203 #[.agg #[.int .i64 fl, wv], .pointer (some ⟨eb, 0, none⟩), .agg #[.pointer p, .map (some gm)]] w fun e w' => TyO A B K ad w e w' res.2 res.1 := by
  simp only [ifF, Option.bind_eq_some_iff] at h
  obtain ⟨⟨r1, o1⟩, h1, h⟩ := h
  obtain ⟨hF, hk0⟩ := fx_start w eb fl wv p gm hb
  obtain ⟨Tx, ux, rfl⟩ := hx.iface
  obtain ⟨Ty, uy, rfl⟩ := hy.iface
  obtain ⟨Tz, uz, rfl⟩ := hz.iface
  go_enter Tryz.func203, Tryz.ntmps203
  go_wp2_with fail
  generalize (w.alloc (.cells #[.int .i64 fl, wv] 172)).alloc (.cells #[.pointer p, .map (some gm)] 244) = W at *
  have hkd : Kept w W.drew := hk0.trans (Kept.drew W)
  have hF := hF.kept (Kept.drew W)
  have hT1 := hT.kept hK hkd
  have hPY := PX.keepT (XKeep.kept hkd) hy
  have hPZ := PX.keepT (XKeep.kept hkd) hz
  have hG0 : Gk B ad ad w W.drew := Gk.ofKt (Kt.of_kept hkd)
  have HC : Hid (Calls Tryz.prog 127 #[.agg #[.int .i64 fl, wv], .iface Tx ux, .agg #[.pointer p, .map (some gm)]] W.drew fun e w2 => (∃ a, e = thrown (.iface 407 (.pointer (some a))) ∧ TyO A B K ad w (thrown (.iface 407 (.pointer (some a)))) w2 res.2 res.1) ∨ (∃ T2 u2, e = .returned (.iface T2 u2) ∧ w2.cell? ⟨w.heap.size, 0, none⟩ = some (.int .i64 fl) ∧ w2.cell? ⟨w.heap.size, 1, none⟩ = some wv ∧ w2.cell? ⟨w.heap.size + 1, 0, none⟩ = some (.pointer p) ∧ w2.cell? ⟨w.heap.size + 1, 1, none⟩ = some (.map (some gm)) ∧ w2.cell? ⟨eb, 1, none⟩ = some (.iface Tx ux) ∧
      Hid (Calls Tryz.prog 221 #[.iface T2 u2, .iface 343 (.agg #[.string { data := #[98, 111, 111, 108] }])] w2 fun e w4 => (∃ a, e = thrown (.iface 407 (.pointer (some a))) ∧ TyO A B K ad w (thrown (.iface 407 (.pointer (some a)))) w4 res.2 res.1) ∨ (e = .returned (.tuple #[]) ∧ w4.cell? ⟨w.heap.size, 0, none⟩ = some (.int .i64 fl) ∧ w4.cell? ⟨w.heap.size, 1, none⟩ = some wv ∧ w4.cell? ⟨w.heap.size + 1, 0, none⟩ = some (.pointer p) ∧ w4.cell? ⟨w.heap.size + 1, 1, none⟩ = some (.map (some gm)) ∧ w4.cell? ⟨eb, 1, none⟩ = some (.iface Tx ux) ∧
        Hid (∃ (σ1 : St) (ad2 : List Nat), (f y own σ1 o1).bind (fun r => match r with
              | (.er j, o) => some (.er j, o)
              | (.ok p, o) => (f z own p.2 o).bind fun r => match r with
                | (.er j, o) => some (.er j, o)
                | (.ok p2, o) => (eqF 500 p2.2 p.1 p2.1).bind fun q => match q with
                  | .er j => some (.er j, o)
                  | .ok σ2 => some (.ok (p.1, σ2), o)) = some res ∧ TI A B K w4 ad2 σ1 own gv p gm o1 ∧ Gk B ad ad2 w w4 ∧ FX w4 w.heap.size (w.heap.size + 1) eb fl wv p gm #[.int .i64 dpt, .iface Tx ux, .iface Ty uy, .iface Tz uz] 332 ∧ PX w4 (fun _ => True) y (.iface Ty uy) ∧ PX w4 (fun _ => True) z (.iface Tz uz)))))) := by
    refine (hf.call h1 (hx.keepT (XKeep.kept hkd)) hT1).mono ?_
    rintro e w2 (⟨j, rfl, rfl, hk, hw⟩ | ⟨q, T2, u2, ad2, rfl, rfl, hv, hT2, hg⟩)
    · simp only [Option.some.injEq] at h
      subst h
      exact .inl ⟨_, rfl, rfl, hk, (hG0.trans (Gk.ofKw hw)).kw⟩
    · have hF2 := hF.gk hg (by decide)
      obtain ⟨d0, d1, d2, d3⟩ := hF2.c
      refine .inr ⟨T2, u2, rfl, d0, d1, d2, d3, hF2.x (i := 1) rfl, ?_⟩
      simp only [Option.bind_eq_some_iff] at h
      obtain ⟨eo, heo, h⟩ := h
      refine (eq_sx A B 500 _ _ _ eo heo _ ad2 _ _ hT2.ga hT2.sx hv rfl).mono ?_
      intro e w4 hE
      cases eo with
      | er j =>
        simp only [Option.some.injEq] at h
        subst h
        obtain ⟨he, hk4⟩ := hE
        exact .inl ⟨_, he, rfl, hK _ _ _ _ hT2.k hk4, ((hG0.trans hg).trans (Gk.ofKt hk4)).kw⟩
      | ok σ1 =>
        obtain ⟨he, hs6, hk4⟩ := hE
        have hgk := Gk.ofKt (B := B) hk4
        have hF6 := hF2.gk hgk (by decide)
        obtain ⟨f0, f1, f2, f3⟩ := hF6.c
        exact .inr ⟨he, f0, f1, f2, f3, hF6.x (i := 1) rfl, σ1, ad2, h, hT2.to hgk hs6 (WS.eq 500 hT2.ws heo) (hK _ _ _ _ hT2.k hk4), (hG0.trans hg).trans hgk, hF6, (hPY.gk hg).gk hgk, (hPZ.gk hg).gk hgk⟩
  obtain ⟨c0, c1, c2, c3⟩ := hF.c
  have c4 := hF.x (i := 1) (v := .iface Tx ux) rfl
  have HFF : Hid _ := hf
  clear hT hT1 hF hk0 hkd hx hy hz h1 hf h hb hPY hPZ hG0
  go_region_held2 (fun w' => w'.cell? ⟨w.heap.size, 0, none⟩ = some (.int .i64 fl) ∧ w'.cell? ⟨w.heap.size, 1, none⟩ = some wv ∧ w'.cell? ⟨w.heap.size + 1, 0, none⟩ = some (.pointer p) ∧ w'.cell? ⟨w.heap.size + 1, 1, none⟩ = some (.map (some gm)) ∧ w'.cell? ⟨eb, 1, none⟩ = some (.iface Tx ux)) (go_keep) (first | (go_at_call 127; refine Calls.mono HC.out ?_; rintro e w2 (⟨a, rfl, hE⟩ | ⟨T2, u2, rfl, d0, d1, d2, d3, d4, HD⟩); exact ⟨rfl, hE⟩; clear HC) | (go_at_call 221; refine Calls.mono HD.out ?_; rintro e w4 (⟨a, rfl, hE⟩ | ⟨rfl, f0, f1, f2, f3, f4, HR⟩); exact ⟨rfl, hE⟩; clear HD))
  all_goals
    obtain ⟨σ1, ad2, hh, hT2, hg2, hF2, hP2, hQ2⟩ := HR.out
    simp only [Option.bind_eq_some_iff] at hh
    obtain ⟨⟨r3, o3⟩, h3, hh⟩ := hh
    have hVd : Kept w4 w4.drew := Kept.drew _
    have hT3 := hT2.kept hK hVd
    have hF3 := hF2.kept hVd
    have hP3 := PX.keepT (XKeep.kept hVd) hP2
    have hQ3 := PX.keepT (XKeep.kept hVd) hQ2
    have hg3 : Gk B ad ad2 w w4.drew := hg2.trans (Gk.ofKt (Kt.of_kept hVd))
    have HC : Hid (Calls Tryz.prog 127 #[.agg #[.int .i64 fl, wv], .iface Ty uy, .agg #[.pointer p, .map (some gm)]] w4.drew fun e w3 => (∃ a, e = thrown (.iface 407 (.pointer (some a))) ∧ TyO A B K ad w (thrown (.iface 407 (.pointer (some a)))) w3 res.2 res.1) ∨ (∃ T3 u3, e = .returned (.iface T3 u3) ∧ w3.cell? ⟨w.heap.size, 0, none⟩ = some (.int .i64 fl) ∧ w3.cell? ⟨w.heap.size, 1, none⟩ = some wv ∧ w3.cell? ⟨w.heap.size + 1, 0, none⟩ = some (.pointer p) ∧ w3.cell? ⟨w.heap.size + 1, 1, none⟩ = some (.map (some gm)) ∧ w3.cell? ⟨eb, 2, none⟩ = some (.iface Ty uy) ∧
        Hid (∃ (q3 : TR × St) (ad3 : List Nat), (f z own q3.2 o3).bind (fun r => match r with
                | (.er j, o) => some (.er j, o)
                | (.ok p2, o) => (eqF 500 p2.2 q3.1 p2.1).bind fun q => match q with
                  | .er j => some (.er j, o)
                  | .ok σ2 => some (.ok (q3.1, σ2), o)) = some res ∧ RV ad3 q3.1 (.iface T3 u3) ∧ TI A B K w3 ad3 q3.2 own gv p gm o3 ∧ Gk B ad ad3 w w3 ∧ FX w3 w.heap.size (w.heap.size + 1) eb fl wv p gm #[.int .i64 dpt, .iface Tx ux, .iface Ty uy, .iface Tz uz] 332 ∧ PX w3 (fun _ => True) z (.iface Tz uz)))) := by
      refine (STf.call HFF.out h3 hP3 hT3).mono ?_
      rintro e w3 (⟨j, rfl, rfl, hk, hw⟩ | ⟨q3, T3, u3, ad3, rfl, rfl, hv4, hT4, hg4⟩)
      · simp only [Option.some.injEq] at hh
        subst hh
        exact .inl ⟨_, rfl, rfl, hk, (hg3.trans (Gk.ofKw hw)).kw⟩
      · have hF4 := hF3.gk hg4 (by decide)
        obtain ⟨e0, e1, e2, e3⟩ := hF4.c
        exact .inr ⟨T3, u3, rfl, e0, e1, e2, e3, hF4.x (i := 2) rfl, q3, ad3, hh, hv4, hT4, hg3.trans hg4, hF4, hQ3.gk hg4⟩
    obtain ⟨c0, c1, c2, c3⟩ := hF3.c
    have c4 := hF3.x (i := 2) (v := .iface Ty uy) rfl
    clear hVd hT3 hg3 hF3 hP3 hQ3 hT2 hg2 hF2 hP2 hQ2 h3 hh HR f0 f1 f2 f3 f4 d0 d1 d2 d3 d4
    go_wp2_with fail
    go_region_held2 (fun w' => w'.cell? ⟨w.heap.size, 0, none⟩ = some (.int .i64 fl) ∧ w'.cell? ⟨w.heap.size, 1, none⟩ = some wv ∧ w'.cell? ⟨w.heap.size + 1, 0, none⟩ = some (.pointer p) ∧ w'.cell? ⟨w.heap.size + 1, 1, none⟩ = some (.map (some gm)) ∧ w'.cell? ⟨eb, 2, none⟩ = some (.iface Ty uy)) (go_keep) (first | (go_at_call 127; refine Calls.mono HC.out ?_; rintro e w3 (⟨a, rfl, hE⟩ | ⟨T3, u3, rfl, d0, d1, d2, d3, d4, HR⟩); exact ⟨rfl, hE⟩; clear HC))
    all_goals
      obtain ⟨q3, ad3, hh, hv4, hT4, hg4, hF4, hQ4⟩ := HR.out
      simp only [Option.bind_eq_some_iff] at hh
      obtain ⟨⟨r5, o5⟩, h5, hh⟩ := hh
      have hVd : Kept w3 w3.drew := Kept.drew _
      have hT5 := hT4.kept hK hVd
      have hF5 := hF4.kept hVd
      have hQ5 := PX.keepT (XKeep.kept hVd) hQ4
      have hg5 : Gk B ad ad3 w w3.drew := hg4.trans (Gk.ofKt (Kt.of_kept hVd))
      have HC : Hid (Calls Tryz.prog 127 #[.agg #[.int .i64 fl, wv], .iface Tz uz, .agg #[.pointer p, .map (some gm)]] w3.drew fun e w5 => (∃ a, e = thrown (.iface 407 (.pointer (some a))) ∧ TyO A B K ad w (thrown (.iface 407 (.pointer (some a)))) w5 res.2 res.1) ∨ (∃ T5 u5, e = .returned (.iface T5 u5) ∧ w5.cell? ⟨w.heap.size, 0, none⟩ = some (.int .i64 fl) ∧ w5.cell? ⟨w.heap.size, 1, none⟩ = some wv ∧ w5.cell? ⟨w.heap.size + 1, 0, none⟩ = some (.pointer p) ∧ w5.cell? ⟨w.heap.size + 1, 1, none⟩ = some (.map (some gm)) ∧ w5.cell? ⟨eb, 3, none⟩ = some (.iface Tz uz) ∧
          Hid (Calls Tryz.prog 221 #[.iface T3 u3, .iface T5 u5] w5 fun e w6 => (∃ a, e = thrown (.iface 407 (.pointer (some a))) ∧ TyO A B K ad w (thrown (.iface 407 (.pointer (some a)))) w6 res.2 res.1) ∨ (e = .returned (.tuple #[]) ∧ w6.cell? ⟨w.heap.size, 0, none⟩ = some (.int .i64 fl) ∧ w6.cell? ⟨w.heap.size, 1, none⟩ = some wv ∧ w6.cell? ⟨w.heap.size + 1, 0, none⟩ = some (.pointer p) ∧ w6.cell? ⟨w.heap.size + 1, 1, none⟩ = some (.map (some gm)) ∧ w6.cell? ⟨eb, 3, none⟩ = some (.iface Tz uz) ∧ Hid (TyO A B K ad w (.returned (.iface T3 u3)) w6 res.2 res.1))))) := by
        refine (STf.call HFF.out h5 hQ5 hT5).mono ?_
        rintro e w5 (⟨j, rfl, rfl, hk, hw⟩ | ⟨q5, T5, u5, ad5, rfl, rfl, hv6, hT6, hg6⟩)
        · simp only [Option.some.injEq] at hh
          subst hh
          exact .inl ⟨_, rfl, rfl, hk, (hg5.trans (Gk.ofKw hw)).kw⟩
        · have hF6 := hF5.gk hg6 (by decide)
          obtain ⟨e0, e1, e2, e3⟩ := hF6.c
          refine .inr ⟨T5, u5, rfl, e0, e1, e2, e3, hF6.x (i := 3) rfl, ?_⟩
          simp only [Option.bind_eq_some_iff] at hh
          obtain ⟨eo, heo, hh⟩ := hh
          have hv7 := hg6.rv hv4
          refine (eq_sx A B 500 _ _ _ eo heo _ ad5 _ _ hT6.ga hT6.sx hv7 hv6).mono ?_
          intro e w6 hE
          cases eo with
          | er j =>
            simp only [Option.some.injEq] at hh
            subst hh
            obtain ⟨he, hk4⟩ := hE
            exact .inl ⟨_, he, rfl, hK _ _ _ _ hT6.k hk4, ((hg5.trans hg6).trans (Gk.ofKt hk4)).kw⟩
          | ok σ9 =>
            simp only [Option.some.injEq] at hh
            subst hh
            obtain ⟨he, hs6, hk4⟩ := hE
            have hF7 := hF6.gk (Gk.ofKt (B := B) hk4) (by decide)
            obtain ⟨f0, f1, f2, f3⟩ := hF7.c
            exact .inr ⟨he, f0, f1, f2, f3, hF7.x (i := 3) rfl, _, _, rfl, hv7, hs6, WS.eq 500 hT6.ws heo, hK _ _ _ _ hT6.k hk4, (hg5.trans hg6).trans (Gk.ofKt hk4)⟩
      obtain ⟨c0, c1, c2, c3⟩ := hF5.c
      have c4 := hF5.x (i := 3) (v := .iface Tz uz) rfl
      clear hVd hT5 hg5 hF5 hQ5 hT4 hg4 hF4 hQ4 hv4 h5 hh HR d0 d1 d2 d3 d4
      go_wp2_with fail
      go_region_held2 (fun w' => w'.cell? ⟨w.heap.size, 0, none⟩ = some (.int .i64 fl) ∧ w'.cell? ⟨w.heap.size, 1, none⟩ = some wv ∧ w'.cell? ⟨w.heap.size + 1, 0, none⟩ = some (.pointer p) ∧ w'.cell? ⟨w.heap.size + 1, 1, none⟩ = some (.map (some gm)) ∧ w'.cell? ⟨eb, 3, none⟩ = some (.iface Tz uz)) (go_keep) (first | (go_at_call 127; refine Calls.mono HC.out ?_; rintro e w5 (⟨a, rfl, hE⟩ | ⟨T5, u5, rfl, d0, d1, d2, d3, d4, HD⟩); exact ⟨rfl, hE⟩; clear HC) | (go_at_call 221; refine Calls.mono HD.out ?_; rintro e w6 (⟨a, rfl, hE⟩ | ⟨rfl, f0, f1, f2, f3, f4, HR⟩); exact ⟨rfl, hE⟩; clear HD))
      all_goals
        go_wp2
        go_ret
        exact HR.out
end Go.Proofs.YtleenphlgbklmaaGreatDoor

namespace Go.Proofs.YtleenphlgbklmaaGreatDoor
open Go.RowKit

theorem BW.c2 {H : TypeId} {w : World} {B b : Nat} {x : Value} {bs : List Value} (h : BW H w B b x bs) : w.cell? ⟨b, 2, none⟩ = some x ∧ w.frozen? ⟨b, 2, none⟩ = false := by
  obtain ⟨hB, p, v, _, hbk, _⟩ := h
  exact ⟨by simp [World.cell?, hbk], by simp [World.frozen?, hbk]⟩
end Go.Proofs.YtleenphlgbklmaaGreatDoor

namespace Go.Proofs.YtleenphlgbklmaaGreatDoor
open Go.RowKit

theorem Tryz.xNaNa (v : Value) (w : World) : (Instr.typeAssert (.iface 257 v) 130 257 true).run Tryz.prog w = .ok (.tuple #[v, .bool true]) w := by kernel_rfl
theorem Tryz.xNuNa (v : Value) (w : World) : (Instr.typeAssert (.iface 263 v) 130 257 true).run Tryz.prog w = .ok (.tuple #[.pointer none, .bool false]) w := by kernel_rfl
theorem Tryz.xNuFu (v : Value) (w : World) : (Instr.typeAssert (.iface 263 v) 130 266 true).run Tryz.prog w = .ok (.tuple #[.pointer none, .bool false]) w := by kernel_rfl
theorem Tryz.xNuIf (v : Value) (w : World) : (Instr.typeAssert (.iface 263 v) 130 269 true).run Tryz.prog w = .ok (.tuple #[.pointer none, .bool false]) w := by kernel_rfl
theorem Tryz.xNuLe (v : Value) (w : World) : (Instr.typeAssert (.iface 263 v) 130 271 true).run Tryz.prog w = .ok (.tuple #[.pointer none, .bool false]) w := by kernel_rfl
theorem Tryz.xNuRe (v : Value) (w : World) : (Instr.typeAssert (.iface 263 v) 130 274 true).run Tryz.prog w = .ok (.tuple #[.pointer none, .bool false]) w := by kernel_rfl
theorem Tryz.xNuAp (v : Value) (w : World) : (Instr.typeAssert (.iface 263 v) 130 276 true).run Tryz.prog w = .ok (.tuple #[.pointer none, .bool false]) w := by kernel_rfl
theorem Tryz.xNuPa (v : Value) (w : World) : (Instr.typeAssert (.iface 263 v) 130 281 true).run Tryz.prog w = .ok (.tuple #[.pointer none, .bool false]) w := by kernel_rfl
theorem Tryz.xFuNa (v : Value) (w : World) : (Instr.typeAssert (.iface 266 v) 130 257 true).run Tryz.prog w = .ok (.tuple #[.pointer none, .bool false]) w := by kernel_rfl
theorem Tryz.xFuFu (v : Value) (w : World) : (Instr.typeAssert (.iface 266 v) 130 266 true).run Tryz.prog w = .ok (.tuple #[v, .bool true]) w := by kernel_rfl
theorem Tryz.xIfNa (v : Value) (w : World) : (Instr.typeAssert (.iface 269 v) 130 257 true).run Tryz.prog w = .ok (.tuple #[.pointer none, .bool false]) w := by kernel_rfl
theorem Tryz.xIfFu (v : Value) (w : World) : (Instr.typeAssert (.iface 269 v) 130 266 true).run Tryz.prog w = .ok (.tuple #[.pointer none, .bool false]) w := by kernel_rfl
theorem Tryz.xIfIf (v : Value) (w : World) : (Instr.typeAssert (.iface 269 v) 130 269 true).run Tryz.prog w = .ok (.tuple #[v, .bool true]) w := by kernel_rfl
theorem Tryz.xLeNa (v : Value) (w : World) : (Instr.typeAssert (.iface 271 v) 130 257 true).run Tryz.prog w = .ok (.tuple #[.pointer none, .bool false]) w := by kernel_rfl
theorem Tryz.xLeFu (v : Value) (w : World) : (Instr.typeAssert (.iface 271 v) 130 266 true).run Tryz.prog w = .ok (.tuple #[.pointer none, .bool false]) w := by kernel_rfl
theorem Tryz.xLeIf (v : Value) (w : World) : (Instr.typeAssert (.iface 271 v) 130 269 true).run Tryz.prog w = .ok (.tuple #[.pointer none, .bool false]) w := by kernel_rfl
theorem Tryz.xLeLe (v : Value) (w : World) : (Instr.typeAssert (.iface 271 v) 130 271 true).run Tryz.prog w = .ok (.tuple #[v, .bool true]) w := by kernel_rfl
theorem Tryz.xReNa (v : Value) (w : World) : (Instr.typeAssert (.iface 274 v) 130 257 true).run Tryz.prog w = .ok (.tuple #[.pointer none, .bool false]) w := by kernel_rfl
theorem Tryz.xReFu (v : Value) (w : World) : (Instr.typeAssert (.iface 274 v) 130 266 true).run Tryz.prog w = .ok (.tuple #[.pointer none, .bool false]) w := by kernel_rfl
theorem Tryz.xReIf (v : Value) (w : World) : (Instr.typeAssert (.iface 274 v) 130 269 true).run Tryz.prog w = .ok (.tuple #[.pointer none, .bool false]) w := by kernel_rfl
theorem Tryz.xReLe (v : Value) (w : World) : (Instr.typeAssert (.iface 274 v) 130 271 true).run Tryz.prog w = .ok (.tuple #[.pointer none, .bool false]) w := by kernel_rfl
theorem Tryz.xReRe (v : Value) (w : World) : (Instr.typeAssert (.iface 274 v) 130 274 true).run Tryz.prog w = .ok (.tuple #[v, .bool true]) w := by kernel_rfl
theorem Tryz.xReAp (v : Value) (w : World) : (Instr.typeAssert (.iface 274 v) 130 276 true).run Tryz.prog w = .ok (.tuple #[.pointer none, .bool false]) w := by kernel_rfl
theorem Tryz.xRePa (v : Value) (w : World) : (Instr.typeAssert (.iface 274 v) 130 281 true).run Tryz.prog w = .ok (.tuple #[.pointer none, .bool false]) w := by kernel_rfl
theorem Tryz.xApNa (v : Value) (w : World) : (Instr.typeAssert (.iface 276 v) 130 257 true).run Tryz.prog w = .ok (.tuple #[.pointer none, .bool false]) w := by kernel_rfl
theorem Tryz.xApFu (v : Value) (w : World) : (Instr.typeAssert (.iface 276 v) 130 266 true).run Tryz.prog w = .ok (.tuple #[.pointer none, .bool false]) w := by kernel_rfl
theorem Tryz.xApIf (v : Value) (w : World) : (Instr.typeAssert (.iface 276 v) 130 269 true).run Tryz.prog w = .ok (.tuple #[.pointer none, .bool false]) w := by kernel_rfl
theorem Tryz.xApLe (v : Value) (w : World) : (Instr.typeAssert (.iface 276 v) 130 271 true).run Tryz.prog w = .ok (.tuple #[.pointer none, .bool false]) w := by kernel_rfl
theorem Tryz.xApRe (v : Value) (w : World) : (Instr.typeAssert (.iface 276 v) 130 274 true).run Tryz.prog w = .ok (.tuple #[.pointer none, .bool false]) w := by kernel_rfl
theorem Tryz.xApAp (v : Value) (w : World) : (Instr.typeAssert (.iface 276 v) 130 276 true).run Tryz.prog w = .ok (.tuple #[v, .bool true]) w := by kernel_rfl
theorem Tryz.xPaNa (v : Value) (w : World) : (Instr.typeAssert (.iface 281 v) 130 257 true).run Tryz.prog w = .ok (.tuple #[.pointer none, .bool false]) w := by kernel_rfl
theorem Tryz.xPaFu (v : Value) (w : World) : (Instr.typeAssert (.iface 281 v) 130 266 true).run Tryz.prog w = .ok (.tuple #[.pointer none, .bool false]) w := by kernel_rfl
theorem Tryz.xPaIf (v : Value) (w : World) : (Instr.typeAssert (.iface 281 v) 130 269 true).run Tryz.prog w = .ok (.tuple #[.pointer none, .bool false]) w := by kernel_rfl
theorem Tryz.xPaLe (v : Value) (w : World) : (Instr.typeAssert (.iface 281 v) 130 271 true).run Tryz.prog w = .ok (.tuple #[.pointer none, .bool false]) w := by kernel_rfl
theorem Tryz.xPaRe (v : Value) (w : World) : (Instr.typeAssert (.iface 281 v) 130 274 true).run Tryz.prog w = .ok (.tuple #[.pointer none, .bool false]) w := by kernel_rfl
theorem Tryz.xPaAp (v : Value) (w : World) : (Instr.typeAssert (.iface 281 v) 130 276 true).run Tryz.prog w = .ok (.tuple #[.pointer none, .bool false]) w := by kernel_rfl
theorem Tryz.xPaPa (v : Value) (w : World) : (Instr.typeAssert (.iface 281 v) 130 281 true).run Tryz.prog w = .ok (.tuple #[v, .bool true]) w := by kernel_rfl
theorem BW.alloc {H : TypeId} {w : World} {B b : Nat} {x : Value} {bs : List Value} (h : BW H w B b x bs) (o : Obj) : BW H (w.alloc o) B b x bs := by
  have k := (Kp.refl (fun _ => False) w).alloc o
  obtain ⟨hB, p, v, hp, hbk, hown, hne⟩ := h
  exact ⟨hB, p, v, hp, k.blk hbk (fun z => z), row_same (P := fun _ => True) (fun b _ hb => k.block b hb (fun z => z)) (fun _ _ => trivial) hown, hne⟩
theorem BW.drewN {H : TypeId} {w : World} {B b : Nat} {x : Value} {bs : List Value} (h : BW H w B b x bs) (n : Nat) : BW H (w.drewN n) B b x bs := h
end Go.Proofs.YtleenphlgbklmaaGreatDoor
