import Derived.Test.YtleenphlgbklmabGreatDoorZPTq
import Derived.Test.YtleenphlgbklmabGreatDoorZTxV
import Derived.Test.YtleenphlgbklmabGreatDoorZFault
set_option linter.unusedVariables false
set_option linter.unusedSimpArgs false
namespace Go.Proofs.YtleenphlgbklmabGreatDoor
open Go.RowKit

set_option maxRecDepth 20000 in
set_option maxHeartbeats 4000000 in
theorem tif_sx {ω : Type} {A : Nat → Addr} {B : Nat} {K : World → ω → Prop} (hK : KOk K) {gv : Gv} {fl : Int} {wv : Value} {f : X → List Bd → St → ω → Option (Oc (TR × St) × ω)} (hf : STf A B K gv fl wv f) {x y z : X} {own : List Bd} {σ : St} {o : ω} {res : Oc (TR × St) × ω} (h : ifF f x y z own σ o = some res) {w : World} {ad : List Nat} {p : Option Addr} {gm : Nat} (hT : TI A B K w ad σ own gv p gm o) {eb dpt : Nat} {vx vy vz : Value} (hb : w.heap[eb]? = some (.cells #[.int .i64 dpt, vx, vy, vz] 246 (0, 0))) (hx : PX w (fun _ => True) x vx) (hy : PX w (fun _ => True) y vy) (hz : PX w (fun _ => True) z vz) :
    Calls Tryz.prog 144 #[.agg #[.int .i64 fl, wv], .pointer (some ⟨eb, 0, none⟩), .agg #[.pointer p, .map (some gm)]] w fun e w' => TyO A B K ad w e w' res.2 res.1 := by
  simp only [ifF, Option.bind_eq_some_iff] at h
  obtain ⟨⟨r1, o1⟩, h1, h⟩ := h
  obtain ⟨hF, hk0⟩ := fx_start w eb fl wv p gm hb
  obtain ⟨Tx, ux, rfl⟩ := hx.iface
  obtain ⟨Ty, uy, rfl⟩ := hy.iface
  obtain ⟨Tz, uz, rfl⟩ := hz.iface
  go_enter Tryz.func144, Tryz.ntmps144
  go_wp2_with fail
  generalize (w.alloc (.cells #[.int .i64 fl, wv] 103)).alloc (.cells #[.pointer p, .map (some gm)] 168) = W at *
  have hkd : Kept w W.drew := hk0.trans (Kept.drew W)
  have hF := hF.kept (Kept.drew W)
  have hT1 := hT.kept hK hkd
  have hPY := PX.keepT (XKeep.kept hkd) hy
  have hPZ := PX.keepT (XKeep.kept hkd) hz
  have hG0 : Gk B ad ad w W.drew := Gk.ofKt (Kt.of_kept hkd)
  have HC : Hid (Calls Tryz.prog 73 #[.agg #[.int .i64 fl, wv], .iface Tx ux, .agg #[.pointer p, .map (some gm)]] W.drew fun e w2 => (∃ a, e = thrown (.iface 342 (.pointer (some a))) ∧ TyO A B K ad w (thrown (.iface 342 (.pointer (some a)))) w2 res.2 res.1) ∨ (∃ T2 u2, e = .returned (.iface T2 u2) ∧ w2.cell? ⟨w.heap.size, 0, none⟩ = some (.int .i64 fl) ∧ w2.cell? ⟨w.heap.size, 1, none⟩ = some wv ∧ w2.cell? ⟨w.heap.size + 1, 0, none⟩ = some (.pointer p) ∧ w2.cell? ⟨w.heap.size + 1, 1, none⟩ = some (.map (some gm)) ∧ w2.cell? ⟨eb, 1, none⟩ = some (.iface Tx ux) ∧
      Hid (Calls Tryz.prog 164 #[.iface T2 u2, .iface 271 (.agg #[.string { data := #[98, 111, 111, 108] }])] w2 fun e w4 => (∃ a, e = thrown (.iface 342 (.pointer (some a))) ∧ TyO A B K ad w (thrown (.iface 342 (.pointer (some a)))) w4 res.2 res.1) ∨ (e = .returned (.tuple #[]) ∧ w4.cell? ⟨w.heap.size, 0, none⟩ = some (.int .i64 fl) ∧ w4.cell? ⟨w.heap.size, 1, none⟩ = some wv ∧ w4.cell? ⟨w.heap.size + 1, 0, none⟩ = some (.pointer p) ∧ w4.cell? ⟨w.heap.size + 1, 1, none⟩ = some (.map (some gm)) ∧ w4.cell? ⟨eb, 1, none⟩ = some (.iface Tx ux) ∧
        Hid (∃ (σ1 : St) (ad2 : List Nat), (f y own σ1 o1).bind (fun r => match r with
              | (.er j, o) => some (.er j, o)
              | (.ok p, o) => (f z own p.2 o).bind fun r => match r with
                | (.er j, o) => some (.er j, o)
                | (.ok p2, o) => (eqF 500 p2.2 p.1 p2.1).bind fun q => match q with
                  | .er j => some (.er j, o)
                  | .ok σ2 => some (.ok (p.1, σ2), o)) = some res ∧ TI A B K w4 ad2 σ1 own gv p gm o1 ∧ Gk B ad ad2 w w4 ∧ FX w4 w.heap.size (w.heap.size + 1) eb fl wv p gm #[.int .i64 dpt, .iface Tx ux, .iface Ty uy, .iface Tz uz] 246 ∧ PX w4 (fun _ => True) y (.iface Ty uy) ∧ PX w4 (fun _ => True) z (.iface Tz uz)))))) := by
    refine (hf.call h1 (hx.keepT (XKeep.kept hkd)) hT1).mono ?_
    rintro e w2 (⟨j, rfl, rfl, hk, hw⟩ | ⟨q, T2, u2, ad2, rfl, rfl, hv, hT2, hg⟩)
    · simp only [Option.some.injEq] at h
      subst h
      exact .inl ⟨_, rfl, rfl, hk, (hG0.trans (Gk.ofKw hw)).kw⟩
    · have hF2 := hF.gk hg (by decide)
      obtain ⟨d0, d1, d2, d3⟩ := hF2.c
      refine .inr ⟨T2, u2, rfl, d0, d1, d2, d3, hF2.x (i := 1) rfl, ?_⟩
      simp only [Option.bind_eq_some_iff] at h
      obtain ⟨eo, heo, h⟩ := h
      refine (eq_sx A B 500 _ _ _ eo heo _ ad2 _ _ hT2.ga hT2.sx hv rfl).mono ?_
      intro e w4 hE
      cases eo with
      | er j =>
        simp only [Option.some.injEq] at h
        subst h
        obtain ⟨he, hk4⟩ := hE
        exact .inl ⟨_, he, rfl, hK _ _ _ _ hT2.k hk4, ((hG0.trans hg).trans (Gk.ofKt hk4)).kw⟩
      | ok σ1 =>
        obtain ⟨he, hs6, hk4⟩ := hE
        have hgk := Gk.ofKt (B := B) hk4
        have hF6 := hF2.gk hgk (by decide)
        obtain ⟨f0, f1, f2, f3⟩ := hF6.c
        exact .inr ⟨he, f0, f1, f2, f3, hF6.x (i := 1) rfl, σ1, ad2, h, hT2.to hgk hs6 (WS.eq 500 hT2.ws heo) (hK _ _ _ _ hT2.k hk4), (hG0.trans hg).trans hgk, hF6, (hPY.gk hg).gk hgk, (hPZ.gk hg).gk hgk⟩
  obtain ⟨c0, c1, c2, c3⟩ := hF.c
  have c4 := hF.x (i := 1) (v := .iface Tx ux) rfl
  have HFF : Hid _ := hf
  clear hT hT1 hF hk0 hkd hx hy hz h1 hf h hb hPY hPZ hG0
  go_region_held2 (fun w' => w'.cell? ⟨w.heap.size, 0, none⟩ = some (.int .i64 fl) ∧ w'.cell? ⟨w.heap.size, 1, none⟩ = some wv ∧ w'.cell? ⟨w.heap.size + 1, 0, none⟩ = some (.pointer p) ∧ w'.cell? ⟨w.heap.size + 1, 1, none⟩ = some (.map (some gm)) ∧ w'.cell? ⟨eb, 1, none⟩ = some (.iface Tx ux)) (go_keep) (first | (go_at_call 73; refine Calls.mono HC.out ?_; rintro e w2 (⟨a, rfl, hE⟩ | ⟨T2, u2, rfl, d0, d1, d2, d3, d4, HD⟩); exact ⟨rfl, hE⟩; clear HC) | (go_at_call 164; refine Calls.mono HD.out ?_; rintro e w4 (⟨a, rfl, hE⟩ | ⟨rfl, f0, f1, f2, f3, f4, HR⟩); exact ⟨rfl, hE⟩; clear HD))
  all_goals
    obtain ⟨σ1, ad2, hh, hT2, hg2, hF2, hP2, hQ2⟩ := HR.out
    simp only [Option.bind_eq_some_iff] at hh
    obtain ⟨⟨r3, o3⟩, h3, hh⟩ := hh
    have hVd : Kept w4 w4.drew := Kept.drew _
    have hT3 := hT2.kept hK hVd
    have hF3 := hF2.kept hVd
    have hP3 := PX.keepT (XKeep.kept hVd) hP2
    have hQ3 := PX.keepT (XKeep.kept hVd) hQ2
    have hg3 : Gk B ad ad2 w w4.drew := hg2.trans (Gk.ofKt (Kt.of_kept hVd))
    have HC : Hid (Calls Tryz.prog 73 #[.agg #[.int .i64 fl, wv], .iface Ty uy, .agg #[.pointer p, .map (some gm)]] w4.drew fun e w3 => (∃ a, e = thrown (.iface 342 (.pointer (some a))) ∧ TyO A B K ad w (thrown (.iface 342 (.pointer (some a)))) w3 res.2 res.1) ∨ (∃ T3 u3, e = .returned (.iface T3 u3) ∧ w3.cell? ⟨w.heap.size, 0, none⟩ = some (.int .i64 fl) ∧ w3.cell? ⟨w.heap.size, 1, none⟩ = some wv ∧ w3.cell? ⟨w.heap.size + 1, 0, none⟩ = some (.pointer p) ∧ w3.cell? ⟨w.heap.size + 1, 1, none⟩ = some (.map (some gm)) ∧ w3.cell? ⟨eb, 2, none⟩ = some (.iface Ty uy) ∧
        Hid (∃ (q3 : TR × St) (ad3 : List Nat), (f z own q3.2 o3).bind (fun r => match r with
                | (.er j, o) => some (.er j, o)
                | (.ok p2, o) => (eqF 500 p2.2 q3.1 p2.1).bind fun q => match q with
                  | .er j => some (.er j, o)
                  | .ok σ2 => some (.ok (q3.1, σ2), o)) = some res ∧ RV ad3 q3.1 (.iface T3 u3) ∧ TI A B K w3 ad3 q3.2 own gv p gm o3 ∧ Gk B ad ad3 w w3 ∧ FX w3 w.heap.size (w.heap.size + 1) eb fl wv p gm #[.int .i64 dpt, .iface Tx ux, .iface Ty uy, .iface Tz uz] 246 ∧ PX w3 (fun _ => True) z (.iface Tz uz)))) := by
      refine (STf.call HFF.out h3 hP3 hT3).mono ?_
      rintro e w3 (⟨j, rfl, rfl, hk, hw⟩ | ⟨q3, T3, u3, ad3, rfl, rfl, hv4, hT4, hg4⟩)
      · simp only [Option.some.injEq] at hh
        subst hh
        exact .inl ⟨_, rfl, rfl, hk, (hg3.trans (Gk.ofKw hw)).kw⟩
      · have hF4 := hF3.gk hg4 (by decide)
        obtain ⟨e0, e1, e2, e3⟩ := hF4.c
        exact .inr ⟨T3, u3, rfl, e0, e1, e2, e3, hF4.x (i := 2) rfl, q3, ad3, hh, hv4, hT4, hg3.trans hg4, hF4, hQ3.gk hg4⟩
    obtain ⟨c0, c1, c2, c3⟩ := hF3.c
    have c4 := hF3.x (i := 2) (v := .iface Ty uy) rfl
    clear hVd hT3 hg3 hF3 hP3 hQ3 hT2 hg2 hF2 hP2 hQ2 h3 hh HR f0 f1 f2 f3 f4 d0 d1 d2 d3 d4
    go_wp2_with fail
    go_region_held2 (fun w' => w'.cell? ⟨w.heap.size, 0, none⟩ = some (.int .i64 fl) ∧ w'.cell? ⟨w.heap.size, 1, none⟩ = some wv ∧ w'.cell? ⟨w.heap.size + 1, 0, none⟩ = some (.pointer p) ∧ w'.cell? ⟨w.heap.size + 1, 1, none⟩ = some (.map (some gm)) ∧ w'.cell? ⟨eb, 2, none⟩ = some (.iface Ty uy)) (go_keep) (first | (go_at_call 73; refine Calls.mono HC.out ?_; rintro e w3 (⟨a, rfl, hE⟩ | ⟨T3, u3, rfl, d0, d1, d2, d3, d4, HR⟩); exact ⟨rfl, hE⟩; clear HC))
    all_goals
      obtain ⟨q3, ad3, hh, hv4, hT4, hg4, hF4, hQ4⟩ := HR.out
      simp only [Option.bind_eq_some_iff] at hh
      obtain ⟨⟨r5, o5⟩, h5, hh⟩ := hh
      have hVd : Kept w3 w3.drew := Kept.drew _
      have hT5 := hT4.kept hK hVd
      have hF5 := hF4.kept hVd
      have hQ5 := PX.keepT (XKeep.kept hVd) hQ4
      have hg5 : Gk B ad ad3 w w3.drew := hg4.trans (Gk.ofKt (Kt.of_kept hVd))
      have HC : Hid (Calls Tryz.prog 73 #[.agg #[.int .i64 fl, wv], .iface Tz uz, .agg #[.pointer p, .map (some gm)]] w3.drew fun e w5 => (∃ a, e = thrown (.iface 342 (.pointer (some a))) ∧ TyO A B K ad w (thrown (.iface 342 (.pointer (some a)))) w5 res.2 res.1) ∨ (∃ T5 u5, e = .returned (.iface T5 u5) ∧ w5.cell? ⟨w.heap.size, 0, none⟩ = some (.int .i64 fl) ∧ w5.cell? ⟨w.heap.size, 1, none⟩ = some wv ∧ w5.cell? ⟨w.heap.size + 1, 0, none⟩ = some (.pointer p) ∧ w5.cell? ⟨w.heap.size + 1, 1, none⟩ = some (.map (some gm)) ∧ w5.cell? ⟨eb, 3, none⟩ = some (.iface Tz uz) ∧
          Hid (Calls Tryz.prog 164 #[.iface T3 u3, .iface T5 u5] w5 fun e w6 => (∃ a, e = thrown (.iface 342 (.pointer (some a))) ∧ TyO A B K ad w (thrown (.iface 342 (.pointer (some a)))) w6 res.2 res.1) ∨ (e = .returned (.tuple #[]) ∧ w6.cell? ⟨w.heap.size, 0, none⟩ = some (.int .i64 fl) ∧ w6.cell? ⟨w.heap.size, 1, none⟩ = some wv ∧ w6.cell? ⟨w.heap.size + 1, 0, none⟩ = some (.pointer p) ∧ w6.cell? ⟨w.heap.size + 1, 1, none⟩ = some (.map (some gm)) ∧ w6.cell? ⟨eb, 3, none⟩ = some (.iface Tz uz) ∧ Hid (TyO A B K ad w (.returned (.iface T3 u3)) w6 res.2 res.1))))) := by
        refine (STf.call HFF.out h5 hQ5 hT5).mono ?_
        rintro e w5 (⟨j, rfl, rfl, hk, hw⟩ | ⟨q5, T5, u5, ad5, rfl, rfl, hv6, hT6, hg6⟩)
        · simp only [Option.some.injEq] at hh
          subst hh
          exact .inl ⟨_, rfl, rfl, hk, (hg5.trans (Gk.ofKw hw)).kw⟩
        · have hF6 := hF5.gk hg6 (by decide)
          obtain ⟨e0, e1, e2, e3⟩ := hF6.c
          refine .inr ⟨T5, u5, rfl, e0, e1, e2, e3, hF6.x (i := 3) rfl, ?_⟩
          simp only [Option.bind_eq_some_iff] at hh
          obtain ⟨eo, heo, hh⟩ := hh
          have hv7 := hg6.rv hv4
          refine (eq_sx A B 500 _ _ _ eo heo _ ad5 _ _ hT6.ga hT6.sx hv7 hv6).mono ?_
          intro e w6 hE
          cases eo with
          | er j =>
            simp only [Option.some.injEq] at hh
            subst hh
            obtain ⟨he, hk4⟩ := hE
            exact .inl ⟨_, he, rfl, hK _ _ _ _ hT6.k hk4, ((hg5.trans hg6).trans (Gk.ofKt hk4)).kw⟩
          | ok σ9 =>
            simp only [Option.some.injEq] at hh
            subst hh
            obtain ⟨he, hs6, hk4⟩ := hE
            have hF7 := hF6.gk (Gk.ofKt (B := B) hk4) (by decide)
            obtain ⟨f0, f1, f2, f3⟩ := hF7.c
            exact .inr ⟨he, f0, f1, f2, f3, hF7.x (i := 3) rfl, _, _, rfl, hv7, hs6, WS.eq 500 hT6.ws heo, hK _ _ _ _ hT6.k hk4, (hg5.trans hg6).trans (Gk.ofKt hk4)⟩
      obtain ⟨c0, c1, c2, c3⟩ := hF5.c
      have c4 := hF5.x (i := 3) (v := .iface Tz uz) rfl
      clear hVd hT5 hg5 hF5 hQ5 hT4 hg4 hF4 hQ4 hv4 h5 hh HR d0 d1 d2 d3 d4
      go_wp2_with fail
      go_region_held2 (fun w' => w'.cell? ⟨w.heap.size, 0, none⟩ = some (.int .i64 fl) ∧ w'.cell? ⟨w.heap.size, 1, none⟩ = some wv ∧ w'.cell? ⟨w.heap.size + 1, 0, none⟩ = some (.pointer p) ∧ w'.cell? ⟨w.heap.size + 1, 1, none⟩ = some (.map (some gm)) ∧ w'.cell? ⟨eb, 3, none⟩ = some (.iface Tz uz)) (go_keep) (first | (go_at_call 73; refine Calls.mono HC.out ?_; rintro e w5 (⟨a, rfl, hE⟩ | ⟨T5, u5, rfl, d0, d1, d2, d3, d4, HD⟩); exact ⟨rfl, hE⟩; clear HC) | (go_at_call 164; refine Calls.mono HD.out ?_; rintro e w6 (⟨a, rfl, hE⟩ | ⟨rfl, f0, f1, f2, f3, f4, HR⟩); exact ⟨rfl, hE⟩; clear HD))
      all_goals
        go_wp2
        go_ret
        exact HR.out
end Go.Proofs.YtleenphlgbklmabGreatDoor

namespace Go.Proofs.YtleenphlgbklmabGreatDoor
open Go.RowKit

theorem Tryz.xNaNa (v : Value) (w : World) : (Instr.typeAssert (.iface 233 v) 107 233 true).run Tryz.prog w = .ok (.tuple #[v, .bool true]) w := by kernel_rfl
theorem Tryz.xNuNa (v : Value) (w : World) : (Instr.typeAssert (.iface 259 v) 107 233 true).run Tryz.prog w = .ok (.tuple #[.pointer none, .bool false]) w := by kernel_rfl
theorem Tryz.xNuFu (v : Value) (w : World) : (Instr.typeAssert (.iface 259 v) 107 240 true).run Tryz.prog w = .ok (.tuple #[.pointer none, .bool false]) w := by kernel_rfl
theorem Tryz.xNuIf (v : Value) (w : World) : (Instr.typeAssert (.iface 259 v) 107 244 true).run Tryz.prog w = .ok (.tuple #[.pointer none, .bool false]) w := by kernel_rfl
theorem Tryz.xNuLe (v : Value) (w : World) : (Instr.typeAssert (.iface 259 v) 107 247 true).run Tryz.prog w = .ok (.tuple #[.pointer none, .bool false]) w := by kernel_rfl
theorem Tryz.xNuRe (v : Value) (w : World) : (Instr.typeAssert (.iface 259 v) 107 250 true).run Tryz.prog w = .ok (.tuple #[.pointer none, .bool false]) w := by kernel_rfl
theorem Tryz.xNuAp (v : Value) (w : World) : (Instr.typeAssert (.iface 259 v) 107 252 true).run Tryz.prog w = .ok (.tuple #[.pointer none, .bool false]) w := by kernel_rfl
theorem Tryz.xNuPa (v : Value) (w : World) : (Instr.typeAssert (.iface 259 v) 107 255 true).run Tryz.prog w = .ok (.tuple #[.pointer none, .bool false]) w := by kernel_rfl
theorem Tryz.xFuNa (v : Value) (w : World) : (Instr.typeAssert (.iface 240 v) 107 233 true).run Tryz.prog w = .ok (.tuple #[.pointer none, .bool false]) w := by kernel_rfl
theorem Tryz.xFuFu (v : Value) (w : World) : (Instr.typeAssert (.iface 240 v) 107 240 true).run Tryz.prog w = .ok (.tuple #[v, .bool true]) w := by kernel_rfl
theorem Tryz.xIfNa (v : Value) (w : World) : (Instr.typeAssert (.iface 244 v) 107 233 true).run Tryz.prog w = .ok (.tuple #[.pointer none, .bool false]) w := by kernel_rfl
theorem Tryz.xIfFu (v : Value) (w : World) : (Instr.typeAssert (.iface 244 v) 107 240 true).run Tryz.prog w = .ok (.tuple #[.pointer none, .bool false]) w := by kernel_rfl
theorem Tryz.xIfIf (v : Value) (w : World) : (Instr.typeAssert (.iface 244 v) 107 244 true).run Tryz.prog w = .ok (.tuple #[v, .bool true]) w := by kernel_rfl
theorem Tryz.xLeNa (v : Value) (w : World) : (Instr.typeAssert (.iface 247 v) 107 233 true).run Tryz.prog w = .ok (.tuple #[.pointer none, .bool false]) w := by kernel_rfl
theorem Tryz.xLeFu (v : Value) (w : World) : (Instr.typeAssert (.iface 247 v) 107 240 true).run Tryz.prog w = .ok (.tuple #[.pointer none, .bool false]) w := by kernel_rfl
theorem Tryz.xLeIf (v : Value) (w : World) : (Instr.typeAssert (.iface 247 v) 107 244 true).run Tryz.prog w = .ok (.tuple #[.pointer none, .bool false]) w := by kernel_rfl
theorem Tryz.xLeLe (v : Value) (w : World) : (Instr.typeAssert (.iface 247 v) 107 247 true).run Tryz.prog w = .ok (.tuple #[v, .bool true]) w := by kernel_rfl
theorem Tryz.xReNa (v : Value) (w : World) : (Instr.typeAssert (.iface 250 v) 107 233 true).run Tryz.prog w = .ok (.tuple #[.pointer none, .bool false]) w := by kernel_rfl
theorem Tryz.xReFu (v : Value) (w : World) : (Instr.typeAssert (.iface 250 v) 107 240 true).run Tryz.prog w = .ok (.tuple #[.pointer none, .bool false]) w := by kernel_rfl
theorem Tryz.xReIf (v : Value) (w : World) : (Instr.typeAssert (.iface 250 v) 107 244 true).run Tryz.prog w = .ok (.tuple #[.pointer none, .bool false]) w := by kernel_rfl
theorem Tryz.xReLe (v : Value) (w : World) : (Instr.typeAssert (.iface 250 v) 107 247 true).run Tryz.prog w = .ok (.tuple #[.pointer none, .bool false]) w := by kernel_rfl
theorem Tryz.xReRe (v : Value) (w : World) : (Instr.typeAssert (.iface 250 v) 107 250 true).run Tryz.prog w = .ok (.tuple #[v, .bool true]) w := by kernel_rfl
theorem Tryz.xReAp (v : Value) (w : World) : (Instr.typeAssert (.iface 250 v) 107 252 true).run Tryz.prog w = .ok (.tuple #[.pointer none, .bool false]) w := by kernel_rfl
theorem Tryz.xRePa (v : Value) (w : World) : (Instr.typeAssert (.iface 250 v) 107 255 true).run Tryz.prog w = .ok (.tuple #[.pointer none, .bool false]) w := by kernel_rfl
theorem Tryz.xApNa (v : Value) (w : World) : (Instr.typeAssert (.iface 252 v) 107 233 true).run Tryz.prog w = .ok (.tuple #[.pointer none, .bool false]) w := by kernel_rfl
theorem Tryz.xApFu (v : Value) (w : World) : (Instr.typeAssert (.iface 252 v) 107 240 true).run Tryz.prog w = .ok (.tuple #[.pointer none, .bool false]) w := by kernel_rfl
theorem Tryz.xApIf (v : Value) (w : World) : (Instr.typeAssert (.iface 252 v) 107 244 true).run Tryz.prog w = .ok (.tuple #[.pointer none, .bool false]) w := by kernel_rfl
theorem Tryz.xApLe (v : Value) (w : World) : (Instr.typeAssert (.iface 252 v) 107 247 true).run Tryz.prog w = .ok (.tuple #[.pointer none, .bool false]) w := by kernel_rfl
theorem Tryz.xApRe (v : Value) (w : World) : (Instr.typeAssert (.iface 252 v) 107 250 true).run Tryz.prog w = .ok (.tuple #[.pointer none, .bool false]) w := by kernel_rfl
theorem Tryz.xApAp (v : Value) (w : World) : (Instr.typeAssert (.iface 252 v) 107 252 true).run Tryz.prog w = .ok (.tuple #[v, .bool true]) w := by kernel_rfl
theorem Tryz.xPaNa (v : Value) (w : World) : (Instr.typeAssert (.iface 255 v) 107 233 true).run Tryz.prog w = .ok (.tuple #[.pointer none, .bool false]) w := by kernel_rfl
theorem Tryz.xPaFu (v : Value) (w : World) : (Instr.typeAssert (.iface 255 v) 107 240 true).run Tryz.prog w = .ok (.tuple #[.pointer none, .bool false]) w := by kernel_rfl
theorem Tryz.xPaIf (v : Value) (w : World) : (Instr.typeAssert (.iface 255 v) 107 244 true).run Tryz.prog w = .ok (.tuple #[.pointer none, .bool false]) w := by kernel_rfl
theorem Tryz.xPaLe (v : Value) (w : World) : (Instr.typeAssert (.iface 255 v) 107 247 true).run Tryz.prog w = .ok (.tuple #[.pointer none, .bool false]) w := by kernel_rfl
theorem Tryz.xPaRe (v : Value) (w : World) : (Instr.typeAssert (.iface 255 v) 107 250 true).run Tryz.prog w = .ok (.tuple #[.pointer none, .bool false]) w := by kernel_rfl
theorem Tryz.xPaAp (v : Value) (w : World) : (Instr.typeAssert (.iface 255 v) 107 252 true).run Tryz.prog w = .ok (.tuple #[.pointer none, .bool false]) w := by kernel_rfl
theorem Tryz.xPaPa (v : Value) (w : World) : (Instr.typeAssert (.iface 255 v) 107 255 true).run Tryz.prog w = .ok (.tuple #[v, .bool true]) w := by kernel_rfl
end Go.Proofs.YtleenphlgbklmabGreatDoor

namespace Go.Proofs.YtleenphlgbklmabGreatDoor
open Go.RowKit

theorem TyO.split {ω : Type} {A : Nat → Addr} {B : Nat} {K : World → ω → Prop} {ad : List Nat} {w : World} {e : Ending} {w' : World} {o : ω} {r : Oc (TR × St)} (h : TyO A B K ad w e w' o r) : (∃ a, e = thrown (.iface 342 (.pointer (some a))) ∧ TyO A B K ad w (thrown (.iface 342 (.pointer (some a)))) w' o r) ∨ (∃ T u, e = .returned (.iface T u) ∧ TyO A B K ad w (.returned (.iface T u)) w' o r) := by
  cases r with
  | er j =>
    obtain ⟨h1, h2⟩ := h
    exact .inl ⟨A j, h1, rfl, h2⟩
  | ok q =>
    obtain ⟨v, ad', rfl, h2, h3⟩ := h
    obtain ⟨T, u, rfl⟩ := h2.iface
    exact .inr ⟨T, u, rfl, _, ad', rfl, h2, h3⟩
set_option maxRecDepth 20000 in
set_option maxHeartbeats 2000000 in
theorem k_name {ω : Type} {A : Nat → Addr} {B : Nat} {K : World → ω → Prop} {fl : Int} {wv : Value} {w : World} {ad : List Nat} {p : Option Addr} {gm eb : Nat} {o : ω} {r : Oc (TR × St)} (hC : ∀ W, Kept w W → Calls Tryz.prog 142 #[.pointer (some ⟨eb, 0, none⟩), .agg #[.pointer p, .map (some gm)]] W fun e w' => TyO A B K ad W e w' o r) :
    Calls Tryz.prog 106 #[.agg #[.int .i64 fl, wv], .iface 233 (.pointer (some ⟨eb, 0, none⟩)), .agg #[.pointer p, .map (some gm)]] w fun e w' => TyO A B K ad w e w' o r := by
  have q0 := fun W => Tryz.xNaNa (.pointer (some ⟨eb, 0, none⟩)) W
  have hk : Kept w ((w.alloc (.cells #[.int .i64 fl, wv] 103)).alloc (.cells #[.pointer p, .map (some gm)] 168)) := (Kept.alloc _ _).trans (Kept.alloc _ _)
  have HC : Hid _ := hC _ hk
  have HK : Hid _ := hk
  clear hC hk
  go_enter Tryz.func106, Tryz.ntmps106
  go_wp2_with fail
  refine Calls.mono HC.out ?_
  intro e w2 hE
  have hE := TyO.pre (Gk.ofKt (B := B) (Kt.of_kept (ad := ad) HK.out)) hE
  rcases hE.split with ⟨a, rfl, hF⟩ | ⟨T, u, rfl, hF⟩
  · exact ⟨rfl, hF⟩
  · have HF : Hid _ := hF
    clear hF hE HC
    go_wp2
    go_ret
    exact HF.out
set_option maxRecDepth 20000 in
set_option maxHeartbeats 2000000 in
theorem k_if {ω : Type} {A : Nat → Addr} {B : Nat} {K : World → ω → Prop} {fl : Int} {wv : Value} {w : World} {ad : List Nat} {p : Option Addr} {gm eb : Nat} {o : ω} {r : Oc (TR × St)} (hC : ∀ W, Kept w W → Calls Tryz.prog 144 #[.agg #[.int .i64 fl, wv], .pointer (some ⟨eb, 0, none⟩), .agg #[.pointer p, .map (some gm)]] W fun e w' => TyO A B K ad W e w' o r) :
    Calls Tryz.prog 106 #[.agg #[.int .i64 fl, wv], .iface 244 (.pointer (some ⟨eb, 0, none⟩)), .agg #[.pointer p, .map (some gm)]] w fun e w' => TyO A B K ad w e w' o r := by
  have q0 := fun W => Tryz.xIfNa (.pointer (some ⟨eb, 0, none⟩)) W
  have q1 := fun W => Tryz.xIfFu (.pointer (some ⟨eb, 0, none⟩)) W
  have q2 := fun W => Tryz.xIfIf (.pointer (some ⟨eb, 0, none⟩)) W
  have hk : Kept w ((w.alloc (.cells #[.int .i64 fl, wv] 103)).alloc (.cells #[.pointer p, .map (some gm)] 168)) := (Kept.alloc _ _).trans (Kept.alloc _ _)
  have HC : Hid _ := hC _ hk
  have HK : Hid _ := hk
  clear hC hk
  go_enter Tryz.func106, Tryz.ntmps106
  go_wp2_with fail
  refine Calls.mono HC.out ?_
  intro e w2 hE
  have hE := TyO.pre (Gk.ofKt (B := B) (Kt.of_kept (ad := ad) HK.out)) hE
  rcases hE.split with ⟨a, rfl, hF⟩ | ⟨T, u, rfl, hF⟩
  · exact ⟨rfl, hF⟩
  · have HF : Hid _ := hF
    clear hF hE HC
    go_wp2
    go_ret
    exact HF.out
set_option maxRecDepth 20000 in
set_option maxHeartbeats 2000000 in
theorem k_app {ω : Type} {A : Nat → Addr} {B : Nat} {K : World → ω → Prop} {fl : Int} {wv : Value} {w : World} {ad : List Nat} {p : Option Addr} {gm eb : Nat} {o : ω} {r : Oc (TR × St)} (hC : ∀ W, Kept w W → Calls Tryz.prog 146 #[.agg #[.int .i64 fl, wv], .pointer (some ⟨eb, 0, none⟩), .agg #[.pointer p, .map (some gm)]] W fun e w' => TyO A B K ad W e w' o r) :
    Calls Tryz.prog 106 #[.agg #[.int .i64 fl, wv], .iface 252 (.pointer (some ⟨eb, 0, none⟩)), .agg #[.pointer p, .map (some gm)]] w fun e w' => TyO A B K ad w e w' o r := by
  have q0 := fun W => Tryz.xApNa (.pointer (some ⟨eb, 0, none⟩)) W
  have q1 := fun W => Tryz.xApFu (.pointer (some ⟨eb, 0, none⟩)) W
  have q2 := fun W => Tryz.xApIf (.pointer (some ⟨eb, 0, none⟩)) W
  have q3 := fun W => Tryz.xApLe (.pointer (some ⟨eb, 0, none⟩)) W
  have q4 := fun W => Tryz.xApAp (.pointer (some ⟨eb, 0, none⟩)) W
  have hk : Kept w ((w.alloc (.cells #[.int .i64 fl, wv] 103)).alloc (.cells #[.pointer p, .map (some gm)] 168)) := (Kept.alloc _ _).trans (Kept.alloc _ _)
  have HC : Hid _ := hC _ hk
  have HK : Hid _ := hk
  clear hC hk
  go_enter Tryz.func106, Tryz.ntmps106
  go_wp2_with fail
  refine Calls.mono HC.out ?_
  intro e w2 hE
  have hE := TyO.pre (Gk.ofKt (B := B) (Kt.of_kept (ad := ad) HK.out)) hE
  rcases hE.split with ⟨a, rfl, hF⟩ | ⟨T, u, rfl, hF⟩
  · exact ⟨rfl, hF⟩
  · have HF : Hid _ := hF
    clear hF hE HC
    go_wp2
    go_ret
    exact HF.out
set_option maxRecDepth 20000 in
set_option maxHeartbeats 2000000 in
theorem k_rec {ω : Type} {A : Nat → Addr} {B : Nat} {K : World → ω → Prop} {fl : Int} {wv : Value} {w : World} {ad : List Nat} {p : Option Addr} {gm eb : Nat} {o : ω} {r : Oc (TR × St)} (hC : ∀ W, Kept w W → Calls Tryz.prog 147 #[.agg #[.int .i64 fl, wv], .pointer (some ⟨eb, 0, none⟩), .agg #[.pointer p, .map (some gm)]] W fun e w' => TyO A B K ad W e w' o r) :
    Calls Tryz.prog 106 #[.agg #[.int .i64 fl, wv], .iface 250 (.pointer (some ⟨eb, 0, none⟩)), .agg #[.pointer p, .map (some gm)]] w fun e w' => TyO A B K ad w e w' o r := by
  have q0 := fun W => Tryz.xReNa (.pointer (some ⟨eb, 0, none⟩)) W
  have q1 := fun W => Tryz.xReFu (.pointer (some ⟨eb, 0, none⟩)) W
  have q2 := fun W => Tryz.xReIf (.pointer (some ⟨eb, 0, none⟩)) W
  have q3 := fun W => Tryz.xReLe (.pointer (some ⟨eb, 0, none⟩)) W
  have q4 := fun W => Tryz.xReAp (.pointer (some ⟨eb, 0, none⟩)) W
  have q5 := fun W => Tryz.xRePa (.pointer (some ⟨eb, 0, none⟩)) W
  have q6 := fun W => Tryz.xReRe (.pointer (some ⟨eb, 0, none⟩)) W
  have hk : Kept w ((w.alloc (.cells #[.int .i64 fl, wv] 103)).alloc (.cells #[.pointer p, .map (some gm)] 168)) := (Kept.alloc _ _).trans (Kept.alloc _ _)
  have HC : Hid _ := hC _ hk
  have HK : Hid _ := hk
  clear hC hk
  go_enter Tryz.func106, Tryz.ntmps106
  go_wp2_with fail
  refine Calls.mono HC.out ?_
  intro e w2 hE
  have hE := TyO.pre (Gk.ofKt (B := B) (Kt.of_kept (ad := ad) HK.out)) hE
  rcases hE.split with ⟨a, rfl, hF⟩ | ⟨T, u, rfl, hF⟩
  · exact ⟨rfl, hF⟩
  · have HF : Hid _ := hF
    clear hF hE HC
    go_wp2
    go_ret
    exact HF.out
set_option maxRecDepth 20000 in
set_option maxHeartbeats 2000000 in
theorem k_num {ω : Type} {A : Nat → Addr} {B : Nat} {K : World → ω → Prop} (hK : KOk K) {fl : Int} {wv : Value} {w : World} {ad : List Nat} {σ : St} {own : List Bd} {gv : Gv} {p : Option Addr} {gm eb : Nat} {o : ω} (hT : TI A B K w ad σ own gv p gm o) :
    Calls Tryz.prog 106 #[.agg #[.int .i64 fl, wv], .iface 259 (.pointer (some ⟨eb, 0, none⟩)), .agg #[.pointer p, .map (some gm)]] w fun e w' => TyO A B K ad w e w' o (.ok (.int, σ)) := by
  have q0 := fun W => Tryz.xNuNa (.pointer (some ⟨eb, 0, none⟩)) W
  have q1 := fun W => Tryz.xNuFu (.pointer (some ⟨eb, 0, none⟩)) W
  have q2 := fun W => Tryz.xNuIf (.pointer (some ⟨eb, 0, none⟩)) W
  have q3 := fun W => Tryz.xNuLe (.pointer (some ⟨eb, 0, none⟩)) W
  have q4 := fun W => Tryz.xNuAp (.pointer (some ⟨eb, 0, none⟩)) W
  have q5 := fun W => Tryz.xNuPa (.pointer (some ⟨eb, 0, none⟩)) W
  have q6 := fun W => Tryz.xNuRe (.pointer (some ⟨eb, 0, none⟩)) W
  have hk : Kept w ((w.alloc (.cells #[.int .i64 fl, wv] 103)).alloc (.cells #[.pointer p, .map (some gm)] 168)) := (Kept.alloc _ _).trans (Kept.alloc _ _)
  have HF : Hid (TyO A B K ad w (.returned (.iface 271 (.agg #[.string { data := #[105, 110, 116] }]))) ((w.alloc (.cells #[.int .i64 fl, wv] 103)).alloc (.cells #[.pointer p, .map (some gm)] 168)) o (.ok (.int, σ))) := ⟨_, ad, rfl, rfl, hT.sx.kept hk, hT.ws, hK _ _ [] _ hT.k (Kt.of_kept hk), Gk.ofKt (Kt.of_kept hk)⟩
  clear hT hk
  go_enter Tryz.func106, Tryz.ntmps106
  go_wp2
  go_ret
  exact HF.out
set_option maxRecDepth 20000 in
set_option maxHeartbeats 4000000 in
theorem k_pair {ω : Type} {A : Nat → Addr} {B : Nat} {K : World → ω → Prop} (hK : KOk K) {gv : Gv} {fl : Int} {wv : Value} {f : X → List Bd → St → ω → Option (Oc (TR × St) × ω)} (hf : STf A B K gv fl wv f) {x y : X} {own : List Bd} {σ : St} {o : ω} {res : Oc (TR × St) × ω} (h : twoF f x y own σ o = some res) {w : World} {ad : List Nat} {p : Option Addr} {gm : Nat} (hT : TI A B K w ad σ own gv p gm o) {eb dpt : Nat} {vx vy : Value} (hb : w.heap[eb]? = some (.cells #[.int .i64 dpt, vx, vy] 257 (0, 0))) (hx : PX w (fun _ => True) x vx) (hy : PX w (fun _ => True) y vy) :
    Calls Tryz.prog 106 #[.agg #[.int .i64 fl, wv], .iface 255 (.pointer (some ⟨eb, 0, none⟩)), .agg #[.pointer p, .map (some gm)]] w fun e w' => TyO A B K ad w e w' res.2 res.1 := by
  have q0 := fun W => Tryz.xPaNa (.pointer (some ⟨eb, 0, none⟩)) W
  have q1 := fun W => Tryz.xPaFu (.pointer (some ⟨eb, 0, none⟩)) W
  have q2 := fun W => Tryz.xPaIf (.pointer (some ⟨eb, 0, none⟩)) W
  have q3 := fun W => Tryz.xPaLe (.pointer (some ⟨eb, 0, none⟩)) W
  have q4 := fun W => Tryz.xPaAp (.pointer (some ⟨eb, 0, none⟩)) W
  have q5 := fun W => Tryz.xPaPa (.pointer (some ⟨eb, 0, none⟩)) W
  simp only [twoF, Option.bind_eq_some_iff] at h
  obtain ⟨⟨r1, o1⟩, h1, h⟩ := h
  obtain ⟨hF, hk0⟩ := fx_start w eb fl wv p gm hb
  obtain ⟨Tx, ux, rfl⟩ := hx.iface
  obtain ⟨Ty, uy, rfl⟩ := hy.iface
  go_enter Tryz.func106, Tryz.ntmps106
  go_wp2_with fail
  clear q0 q1 q2 q3 q4 q5
  generalize (w.alloc (.cells #[.int .i64 fl, wv] 103)).alloc (.cells #[.pointer p, .map (some gm)] 168) = W at *
  have hkd : Kept w W.drew := hk0.trans (Kept.drew W)
  have hF := hF.kept (Kept.drew W)
  have hT1 := hT.kept hK hkd
  have hPY := PX.keepT (XKeep.kept hkd) hy
  have hG0 : Gk B ad ad w W.drew := Gk.ofKt (Kt.of_kept hkd)
  have HC : Hid (Calls Tryz.prog 73 #[.agg #[.int .i64 fl, wv], .iface Tx ux, .agg #[.pointer p, .map (some gm)]] W.drew fun e w2 => (∃ a, e = thrown (.iface 342 (.pointer (some a))) ∧ TyO A B K ad w (thrown (.iface 342 (.pointer (some a)))) w2 res.2 res.1) ∨ (∃ T2 u2, e = .returned (.iface T2 u2) ∧ w2.cell? ⟨w.heap.size, 0, none⟩ = some (.int .i64 fl) ∧ w2.cell? ⟨w.heap.size, 1, none⟩ = some wv ∧ w2.cell? ⟨w.heap.size + 1, 0, none⟩ = some (.pointer p) ∧ w2.cell? ⟨w.heap.size + 1, 1, none⟩ = some (.map (some gm)) ∧ w2.cell? ⟨eb, 1, none⟩ = some (.iface Tx ux) ∧ Hid (∃ q ad2, r1 = .ok q ∧ RV ad2 q.1 (.iface T2 u2) ∧ TI A B K w2 ad2 q.2 own gv p gm o1 ∧ Gk B ad ad2 w w2 ∧ FX w2 w.heap.size (w.heap.size + 1) eb fl wv p gm #[.int .i64 dpt, .iface Tx ux, .iface Ty uy] 257 ∧ PX w2 (fun _ => True) y (.iface Ty uy)))) := by
    refine (hf.call h1 (hx.keepT (XKeep.kept hkd)) hT1).mono ?_
    rintro e w2 (⟨j, rfl, rfl, hk, hw⟩ | ⟨q, T2, u2, ad2, rfl, rfl, hv, hT2, hg⟩)
    · simp only [Option.some.injEq] at h
      subst h
      exact .inl ⟨_, rfl, rfl, hk, (hG0.trans (Gk.ofKw hw)).kw⟩
    · have hF2 := hF.gk hg (by decide)
      obtain ⟨d0, d1, d2, d3⟩ := hF2.c
      exact .inr ⟨T2, u2, rfl, d0, d1, d2, d3, hF2.x (i := 1) rfl, q, ad2, rfl, hv, hT2, hG0.trans hg, hF2, hPY.gk hg⟩
  obtain ⟨c0, c1, c2, c3⟩ := hF.c
  have c4 := hF.x (i := 1) (v := .iface Tx ux) rfl
  have HFF : Hid _ := hf
  have HH : Hid _ := h
  clear hT hT1 hF hk0 hkd hx hy h1 hf h hb hPY hG0
  go_region_held2 (fun w' => w'.cell? ⟨w.heap.size, 0, none⟩ = some (.int .i64 fl) ∧ w'.cell? ⟨w.heap.size, 1, none⟩ = some wv ∧ w'.cell? ⟨w.heap.size + 1, 0, none⟩ = some (.pointer p) ∧ w'.cell? ⟨w.heap.size + 1, 1, none⟩ = some (.map (some gm)) ∧ w'.cell? ⟨eb, 1, none⟩ = some (.iface Tx ux)) (go_keep) (first | (go_at_call 73; refine Calls.mono HC.out ?_; rintro e w2 (⟨a, rfl, hE⟩ | ⟨T2, u2, rfl, d0, d1, d2, d3, d4, HR⟩); exact ⟨rfl, hE⟩; clear HC))
  all_goals
    obtain ⟨q, ad2, rfl, hv2, hT2, hg2, hF2, hP2⟩ := HR.out
    have hh := HH.out
    simp only [Option.bind_eq_some_iff] at hh
    obtain ⟨⟨r3, o3⟩, h3, hh⟩ := hh
    have hVd : Kept w2 w2.drew := Kept.drew _
    have hT3 := hT2.kept hK hVd
    have hF3 := hF2.kept hVd
    have hP3 := PX.keepT (XKeep.kept hVd) hP2
    have hg3 : Gk B ad ad2 w w2.drew := hg2.trans (Gk.ofKt (Kt.of_kept hVd))
    have HC : Hid (Calls Tryz.prog 73 #[.agg #[.int .i64 fl, wv], .iface Ty uy, .agg #[.pointer p, .map (some gm)]] w2.drew fun e w3 => (∃ a, e = thrown (.iface 342 (.pointer (some a))) ∧ TyO A B K ad w (thrown (.iface 342 (.pointer (some a)))) w3 res.2 res.1) ∨ (∃ T3 u3, e = .returned (.iface T3 u3) ∧ w3.cell? ⟨w.heap.size, 0, none⟩ = some (.int .i64 fl) ∧ w3.cell? ⟨w.heap.size, 1, none⟩ = some wv ∧ w3.cell? ⟨w.heap.size + 1, 0, none⟩ = some (.pointer p) ∧ w3.cell? ⟨w.heap.size + 1, 1, none⟩ = some (.map (some gm)) ∧ w3.cell? ⟨eb, 2, none⟩ = some (.iface Ty uy) ∧ Hid (TyO A B K ad w (.returned (.iface 153 (.pointer (some ⟨w3.heap.size, 0, none⟩)))) (w3.alloc (.cells #[.nilIface, .iface T2 u2, .iface T3 u3] 156)) res.2 res.1))) := by
      refine (STf.call HFF.out h3 hP3 hT3).mono ?_
      rintro e w3 (⟨j, rfl, rfl, hk, hw⟩ | ⟨q3, T3, u3, ad3, rfl, rfl, hv4, hT4, hg4⟩)
      · simp only [Option.some.injEq] at hh
        subst hh
        exact .inl ⟨_, rfl, rfl, hk, (hg3.trans (Gk.ofKw hw)).kw⟩
      · have hF4 := hF3.gk hg4 (by decide)
        obtain ⟨e0, e1, e2, e3⟩ := hF4.c
        simp only [Option.some.injEq] at hh
        subst hh
        have hka : Kept w3 (w3.alloc (.cells #[.nilIface, .iface T2 u2, .iface T3 u3] 156)) := Kept.alloc _ _
        exact .inr ⟨T3, u3, rfl, e0, e1, e2, e3, hF4.x (i := 2) rfl, _, _, rfl, RV.last hT4.sx.len .pr, hT4.sx.newp hT4.ws (hg4.rv hv2) hv4, hT4.ws.add _, hK _ _ [] _ hT4.k (Kt.of_kept hka), (hg3.trans hg4).trans (Gk.new w3 _)⟩
    obtain ⟨c0, c1, c2, c3⟩ := hF3.c
    have c4 := hF3.x (i := 2) (v := .iface Ty uy) rfl
    clear hVd hT3 hg3 hF3 hP3 hT2 hg2 hF2 hP2 hv2 h3 hh HR HFF HH d0 d1 d2 d3 d4
    go_wp2_with fail
    go_region_held2 (fun w' => w'.cell? ⟨w.heap.size, 0, none⟩ = some (.int .i64 fl) ∧ w'.cell? ⟨w.heap.size, 1, none⟩ = some wv ∧ w'.cell? ⟨w.heap.size + 1, 0, none⟩ = some (.pointer p) ∧ w'.cell? ⟨w.heap.size + 1, 1, none⟩ = some (.map (some gm)) ∧ w'.cell? ⟨eb, 2, none⟩ = some (.iface Ty uy)) (go_keep) (first | (go_at_call 73; refine Calls.mono HC.out ?_; rintro e w3 (⟨a, rfl, hE⟩ | ⟨T3, u3, rfl, d0, d1, d2, d3, d4, HR⟩); exact ⟨rfl, hE⟩; clear HC))
    all_goals
      go_wp2
      go_ret
      exact HR.out
end Go.Proofs.YtleenphlgbklmabGreatDoor

namespace Go.Proofs.YtleenphlgbklmabGreatDoor
open Go.RowKit

theorem TI.with {ω : Type} {A : Nat → Addr} {B : Nat} {K : World → ω → Prop} {w : World} {ad : List Nat} {σ : St} {own : List Bd} {gv : Gv} {p : Option Addr} {gm : Nat} {o : ω} (h : TI A B K w ad σ own gv p gm o) {q : Nat} {n : ByteArray} {r : TR} {tv : Value} {b : Bool} (hb : w.heap[q]? = some (.cells #[.string n, tv, .bool b, .pointer p] 287 (0, 0))) (hv : RV ad r tv) : TI A B K w ad σ (⟨n, r, b⟩ :: own) gv (some ⟨q, 0, none⟩) gm o :=
  ⟨h.sx, h.ws, h.ga, ⟨q, tv, _, rfl, hb, hv, h.ch⟩, h.gm, h.k⟩
set_option maxRecDepth 20000 in
set_option maxHeartbeats 4000000 in
theorem k_fun {ω : Type} {A : Nat → Addr} {B : Nat} {K : World → ω → Prop} (hK : KOk K) {gv : Gv} {fl : Int} {wv : Value} {f : X → List Bd → St → ω → Option (Oc (TR × St) × ω)} (hf : STf A B K gv fl wv f) {m : ByteArray} {x : X} {own : List Bd} {σ : St} {o : ω} {res : Oc (TR × St) × ω} (h : funF f m x own σ o = some res) {w : World} {ad : List Nat} {p : Option Addr} {gm : Nat} (hT : TI A B K w ad σ own gv p gm o) {eb dpt : Nat} {vx : Value} (hb : w.heap[eb]? = some (.cells #[.int .i64 dpt, .string m, vx] 242 (0, 0))) (hx : PX w (fun _ => True) x vx) :
    Calls Tryz.prog 106 #[.agg #[.int .i64 fl, wv], .iface 240 (.pointer (some ⟨eb, 0, none⟩)), .agg #[.pointer p, .map (some gm)]] w fun e w' => TyO A B K ad w e w' res.2 res.1 := by
  have q0 := fun W => Tryz.xFuNa (.pointer (some ⟨eb, 0, none⟩)) W
  have q1 := fun W => Tryz.xFuFu (.pointer (some ⟨eb, 0, none⟩)) W
  simp only [funF, Option.bind_eq_some_iff] at h
  obtain ⟨⟨r1, o1⟩, h1, h⟩ := h
  obtain ⟨hF, hk0⟩ := fx_start w eb fl wv p gm hb
  obtain ⟨Tb, ub, rfl⟩ := hx.iface
  have hsz : ((w.alloc (.cells #[.int .i64 fl, wv] 103)).alloc (.cells #[.pointer p, .map (some gm)] 168)).heap.size = w.heap.size + 1 + 1 := by simp
  go_enter Tryz.func106, Tryz.ntmps106
  go_wp2_with fail
  clear q0 q1
  generalize (w.alloc (.cells #[.int .i64 fl, wv] 103)).alloc (.cells #[.pointer p, .map (some gm)] 168) = W at *
  have hT0 := hT.kept hK hk0
  have hs0 := hT0.sx
  have hkd : Kept W (W.alloc (.cells #[.nilIface, .string { data := #[] }, .bool false] 148)).drew := (Kept.alloc _ _).trans (Kept.drew _)
  have hgn : Gk B ad (ad ++ [W.heap.size]) W (W.alloc (.cells #[.nilIface, .string { data := #[] }, .bool false] 148)).drew := (Gk.new W _).trans (Gk.ofKt (Kt.of_kept (Kept.drew _)))
  have hrl : RV (ad ++ [W.heap.size]) (.nd .vr σ.length) (.iface 124 (.pointer (some ⟨W.heap.size, 0, none⟩))) := RV.last hs0.len .vr
  have hT1 : TI A B K (W.alloc (.cells #[.nilIface, .string { data := #[] }, .bool false] 148)).drew (ad ++ [W.heap.size]) (σ ++ [newV]) own gv p gm o := hT0.to hgn ((hs0.newv hT0.ws false).kept (Kept.drew _)) (hT0.ws.add _) (hK _ _ [] _ hT0.k (Kt.of_kept hkd))
  have hG0 : Gk B ad (ad ++ [W.heap.size]) w (W.alloc (.cells #[.nilIface, .string { data := #[] }, .bool false] 148)).drew := (Gk.ofKt (Kt.of_kept hk0)).trans hgn
  have hF1 := hF.kept hkd
  have hP1 := PX.keepT (XKeep.kept (hk0.trans hkd)) hx
  rw [hsz] at hrl hT1 hG0
  generalize (W.alloc (.cells #[.nilIface, .string { data := #[] }, .bool false] 148)) = V at *
  have HC : Hid (Calls Tryz.prog 143 #[.agg #[.pointer p, .map (some gm)], .string m, .iface 124 (.pointer (some ⟨w.heap.size + 1 + 1, 0, none⟩))] V.drew fun e w2 => ∃ q, e = .returned (.agg #[.pointer (some ⟨q, 0, none⟩), .map (some gm)]) ∧ w2.cell? ⟨w.heap.size, 0, none⟩ = some (.int .i64 fl) ∧ w2.cell? ⟨w.heap.size, 1, none⟩ = some wv ∧ w2.cell? ⟨w.heap.size + 1, 0, none⟩ = some (.pointer p) ∧ w2.cell? ⟨w.heap.size + 1, 1, none⟩ = some (.map (some gm)) ∧ w2.cell? ⟨eb, 1, none⟩ = some (.string m) ∧ w2.cell? ⟨eb, 2, none⟩ = some (.iface Tb ub) ∧
      Hid (Calls Tryz.prog 73 #[.agg #[.int .i64 fl, wv], .iface Tb ub, .agg #[.pointer (some ⟨q, 0, none⟩), .map (some gm)]] w2 fun e w3 => (∃ a, e = thrown (.iface 342 (.pointer (some a))) ∧ TyO A B K ad w (thrown (.iface 342 (.pointer (some a)))) w3 res.2 res.1) ∨ (∃ T3 u3, e = .returned (.iface T3 u3) ∧ w3.cell? ⟨w.heap.size, 0, none⟩ = some (.int .i64 fl) ∧ w3.cell? ⟨w.heap.size, 1, none⟩ = some wv ∧ w3.cell? ⟨w.heap.size + 1, 0, none⟩ = some (.pointer p) ∧ w3.cell? ⟨w.heap.size + 1, 1, none⟩ = some (.map (some gm)) ∧ w3.cell? ⟨eb, 1, none⟩ = some (.string m) ∧ w3.cell? ⟨eb, 2, none⟩ = some (.iface Tb ub) ∧ Hid (TyO A B K ad w (.returned (.iface 157 (.pointer (some ⟨w3.heap.size, 0, none⟩)))) (w3.alloc (.cells #[.nilIface, .iface 124 (.pointer (some ⟨w.heap.size + 1 + 1, 0, none⟩)), .iface T3 u3] 160)) res.2 res.1)))) := by
    refine (withp_any V.drew p gm m _ _).mono ?_
    rintro e w2 ⟨q, rfl, hq, hk2⟩
    have hF2 := hF1.kept hk2
    obtain ⟨d0, d1, d2, d3⟩ := hF2.c
    refine ⟨q, rfl, d0, d1, d2, d3, hF2.x (i := 1) rfl, hF2.x (i := 2) rfl, ?_⟩
    have hT2 := (hT1.kept hK hk2).with hq hrl
    have hg2 := hG0.trans (Gk.ofKt (Kt.of_kept hk2))
    refine (hf.call h1 (hP1.keepT (XKeep.kept hk2)) hT2).mono ?_
    rintro e w3 (⟨j, rfl, rfl, hk, hw⟩ | ⟨q3, T3, u3, ad3, rfl, rfl, hv4, hT4, hg4⟩)
    · simp only [Option.some.injEq] at h
      subst h
      exact .inl ⟨_, rfl, rfl, hk, (hg2.trans (Gk.ofKw hw)).kw⟩
    · have hF4 := hF2.gk hg4 (by decide)
      obtain ⟨e0, e1, e2, e3⟩ := hF4.c
      simp only [Option.some.injEq] at h
      subst h
      have hka : Kept w3 (w3.alloc (.cells #[.nilIface, .iface 124 (.pointer (some ⟨w.heap.size + 1 + 1, 0, none⟩)), .iface T3 u3] 160)) := Kept.alloc _ _
      exact .inr ⟨T3, u3, rfl, e0, e1, e2, e3, hF4.x (i := 1) rfl, hF4.x (i := 2) rfl, _, _, rfl, RV.last hT4.sx.len .ar, hT4.sx.newa hT4.ws (hg4.rv hrl) hv4, hT4.ws.add _, hK _ _ [] _ hT4.k (Kt.of_kept hka), (hg2.trans hg4).trans (Gk.new w3 _)⟩
  obtain ⟨c0, c1, c2, c3⟩ := hF1.c
  have c4 := hF1.x (i := 1) (v := .string m) rfl
  have c5 := hF1.x (i := 2) (v := .iface Tb ub) rfl
  clear hT hT0 hT1 hF hF1 hk0 hkd hx h1 hf h hb hP1 hG0 hgn hrl hs0 hsz
  go_region_held2 (fun w' => w'.cell? ⟨w.heap.size, 0, none⟩ = some (.int .i64 fl) ∧ w'.cell? ⟨w.heap.size, 1, none⟩ = some wv ∧ w'.cell? ⟨w.heap.size + 1, 0, none⟩ = some (.pointer p) ∧ w'.cell? ⟨w.heap.size + 1, 1, none⟩ = some (.map (some gm)) ∧ w'.cell? ⟨eb, 1, none⟩ = some (.string m) ∧ w'.cell? ⟨eb, 2, none⟩ = some (.iface Tb ub)) (go_keep) (first | (go_at_call 143; refine Calls.mono HC.out ?_; rintro e w2 ⟨q, rfl, d0, d1, d2, d3, d4, d5, HD⟩; clear HC) | (go_at_call 73; refine Calls.mono HD.out ?_; rintro e w3 (⟨a, rfl, hE⟩ | ⟨T3, u3, rfl, f0, f1, f2, f3, f4, f5, HR⟩); exact ⟨rfl, hE⟩; clear HD))
  all_goals
    go_wp2
    go_ret
    exact HR.out
end Go.Proofs.YtleenphlgbklmabGreatDoor

namespace Go.Proofs.YtleenphlgbklmabGreatDoor
open Go.RowKit

set_option maxRecDepth 20000 in
set_option maxHeartbeats 4000000 in
theorem k_let {ω : Type} {A : Nat → Addr} {B : Nat} {K : World → ω → Prop} (hK : KOk K) {gv : Gv} {fl : Int} {wv : Value} {f : X → List Bd → St → ω → Option (Oc (TR × St) × ω)} (hf : STf A B K gv fl wv f) {m : ByteArray} {x y : X} {own : List Bd} {σ : St} {o : ω} {res : Oc (TR × St) × ω} (h : letF f m x y own σ o = some res) {w : World} {ad : List Nat} {p : Option Addr} {gm : Nat} (hT : TI A B K w ad σ own gv p gm o) {eb dpt : Nat} {vx vy : Value} (hb : w.heap[eb]? = some (.cells #[.int .i64 dpt, .string m, vx, vy] 249 (0, 0))) (hx : PX w (fun _ => True) x vx) (hy : PX w (fun _ => True) y vy) :
    Calls Tryz.prog 106 #[.agg #[.int .i64 fl, wv], .iface 247 (.pointer (some ⟨eb, 0, none⟩)), .agg #[.pointer p, .map (some gm)]] w fun e w' => TyO A B K ad w e w' res.2 res.1 := by
  have q0 := fun W => Tryz.xLeNa (.pointer (some ⟨eb, 0, none⟩)) W
  have q1 := fun W => Tryz.xLeFu (.pointer (some ⟨eb, 0, none⟩)) W
  have q2 := fun W => Tryz.xLeIf (.pointer (some ⟨eb, 0, none⟩)) W
  have q3 := fun W => Tryz.xLeLe (.pointer (some ⟨eb, 0, none⟩)) W
  simp only [letF, Option.bind_eq_some_iff] at h
  obtain ⟨⟨r1, o1⟩, h1, h⟩ := h
  obtain ⟨hF, hk0⟩ := fx_start w eb fl wv p gm hb
  obtain ⟨Tx, ux, rfl⟩ := hx.iface
  obtain ⟨Ty, uy, rfl⟩ := hy.iface
  go_enter Tryz.func106, Tryz.ntmps106
  go_wp2_with fail
  clear q0 q1 q2 q3
  generalize (w.alloc (.cells #[.int .i64 fl, wv] 103)).alloc (.cells #[.pointer p, .map (some gm)] 168) = W at *
  have hkd : Kept w W.drew := hk0.trans (Kept.drew W)
  have hF := hF.kept (Kept.drew W)
  have hT1 := hT.kept hK hkd
  have hPY := PX.keepT (XKeep.kept hkd) hy
  have hG0 : Gk B ad ad w W.drew := Gk.ofKt (Kt.of_kept hkd)
  have HC : Hid (Calls Tryz.prog 73 #[.agg #[.int .i64 fl, wv], .iface Tx ux, .agg #[.pointer p, .map (some gm)]] W.drew fun e w2 => (∃ a, e = thrown (.iface 342 (.pointer (some a))) ∧ TyO A B K ad w (thrown (.iface 342 (.pointer (some a)))) w2 res.2 res.1) ∨ (∃ T2 u2, e = .returned (.iface T2 u2) ∧ w2.cell? ⟨w.heap.size, 0, none⟩ = some (.int .i64 fl) ∧ w2.cell? ⟨w.heap.size, 1, none⟩ = some wv ∧ w2.cell? ⟨w.heap.size + 1, 0, none⟩ = some (.pointer p) ∧ w2.cell? ⟨w.heap.size + 1, 1, none⟩ = some (.map (some gm)) ∧ w2.cell? ⟨eb, 2, none⟩ = some (.iface Tx ux) ∧ Hid (∃ q ad2, r1 = .ok q ∧ RV ad2 q.1 (.iface T2 u2) ∧ TI A B K w2 ad2 q.2 own gv p gm o1 ∧ Gk B ad ad2 w w2 ∧ FX w2 w.heap.size (w.heap.size + 1) eb fl wv p gm #[.int .i64 dpt, .string m, .iface Tx ux, .iface Ty uy] 249 ∧ PX w2 (fun _ => True) y (.iface Ty uy)))) := by
    refine (hf.call h1 (hx.keepT (XKeep.kept hkd)) hT1).mono ?_
    rintro e w2 (⟨j, rfl, rfl, hk, hw⟩ | ⟨q, T2, u2, ad2, rfl, rfl, hv, hT2, hg⟩)
    · simp only [Option.some.injEq] at h
      subst h
      exact .inl ⟨_, rfl, rfl, hk, (hG0.trans (Gk.ofKw hw)).kw⟩
    · have hF2 := hF.gk hg (by decide)
      obtain ⟨d0, d1, d2, d3⟩ := hF2.c
      exact .inr ⟨T2, u2, rfl, d0, d1, d2, d3, hF2.x (i := 2) rfl, q, ad2, rfl, hv, hT2, hG0.trans hg, hF2, hPY.gk hg⟩
  obtain ⟨c0, c1, c2, c3⟩ := hF.c
  have c4 := hF.x (i := 2) (v := .iface Tx ux) rfl
  have HFF : Hid _ := hf
  have HH : Hid _ := h
  clear hT hT1 hF hk0 hkd hx hy h1 hf h hb hPY hG0
  go_region_held2 (fun w' => w'.cell? ⟨w.heap.size, 0, none⟩ = some (.int .i64 fl) ∧ w'.cell? ⟨w.heap.size, 1, none⟩ = some wv ∧ w'.cell? ⟨w.heap.size + 1, 0, none⟩ = some (.pointer p) ∧ w'.cell? ⟨w.heap.size + 1, 1, none⟩ = some (.map (some gm)) ∧ w'.cell? ⟨eb, 2, none⟩ = some (.iface Tx ux)) (go_keep) (first | (go_at_call 73; refine Calls.mono HC.out ?_; rintro e w2 (⟨a, rfl, hE⟩ | ⟨T2, u2, rfl, d0, d1, d2, d3, d4, HR⟩); exact ⟨rfl, hE⟩; clear HC))
  all_goals
    obtain ⟨q, ad2, rfl, hv2, hT2, hg2, hF2, hP2⟩ := HR.out
    have hh := HH.out
    simp only [Option.bind_eq_some_iff] at hh
    obtain ⟨bd, hbd, σ1, hσ1, hh⟩ := hh
    have HBD : Hid (∀ W2, Kept w2 W2 → Calls Tryz.prog 145 #[.agg #[.pointer p, .map (some gm)]] W2 fun e w3 => ∃ mb, e = .returned (.map (some mb)) ∧ w3.cell? ⟨w.heap.size, 0, none⟩ = some (.int .i64 fl) ∧ w3.cell? ⟨w.heap.size, 1, none⟩ = some wv ∧ w3.cell? ⟨w.heap.size + 1, 0, none⟩ = some (.pointer p) ∧ w3.cell? ⟨w.heap.size + 1, 1, none⟩ = some (.map (some gm)) ∧ w3.cell? ⟨eb, 1, none⟩ = some (.string m) ∧ w3.cell? ⟨eb, 3, none⟩ = some (.iface Ty uy) ∧
        Hid (Calls Tryz.prog 102 #[.iface T2 u2, .map (some mb)] w3 fun e w4 => e = .returned (.tuple #[]) ∧ w4.cell? ⟨w.heap.size, 0, none⟩ = some (.int .i64 fl) ∧ w4.cell? ⟨w.heap.size, 1, none⟩ = some wv ∧ w4.cell? ⟨w.heap.size + 1, 0, none⟩ = some (.pointer p) ∧ w4.cell? ⟨w.heap.size + 1, 1, none⟩ = some (.map (some gm)) ∧ w4.cell? ⟨eb, 1, none⟩ = some (.string m) ∧ w4.cell? ⟨eb, 3, none⟩ = some (.iface Ty uy) ∧ Hid (TI A B K w4 ad2 σ1 own gv p gm o1 ∧ Gk B ad ad2 w w4 ∧ FX w4 w.heap.size (w.heap.size + 1) eb fl wv p gm #[.int .i64 dpt, .string m, .iface Tx ux, .iface Ty uy] 249 ∧ PX w4 (fun _ => True) y (.iface Ty uy)))) := fun W2 hW2 => by
      have hT3 := hT2.kept hK hW2
      have hF3 := hF2.kept hW2
      have hP3 := PX.keepT (XKeep.kept hW2) hP2
      have hg3 : Gk B ad ad2 w W2 := hg2.trans (Gk.ofKt (Kt.of_kept hW2))
      refine (bound_sx hbd hT3.sx hT3.ch).mono ?_
      rintro e w3 ⟨mb, rfl, hm3, hs3, _, hk3⟩
      have hgk := Gk.ofKt (B := B) hk3
      have hF4 := hF3.gk hgk (by decide)
      obtain ⟨e0, e1, e2, e3⟩ := hF4.c
      refine ⟨mb, rfl, e0, e1, e2, e3, hF4.x (i := 1) rfl, hF4.x (i := 3) rfl, ?_⟩
      refine (gen_sx 500 _ _ _ _ hσ1 w3 ad2 _ mb hs3 hv2 hm3).mono ?_
      rintro e w4 ⟨rfl, hs4, _, hk4⟩
      have hgk4 := Gk.ofKt (B := B) hk4
      have hF5 := hF4.gk hgk4 (by decide)
      obtain ⟨e0, e1, e2, e3⟩ := hF5.c
      exact ⟨rfl, e0, e1, e2, e3, hF5.x (i := 1) rfl, hF5.x (i := 3) rfl, hT3.to (hgk.trans hgk4) hs4 (WS.gen 500 hT3.ws hσ1) (hK _ _ _ _ (hK _ _ _ _ hT3.k hk3) hk4), (hg3.trans hgk).trans hgk4, hF5, (hP3.gk hgk).gk hgk4⟩
    have HH3 : Hid _ := hh
    have HV2 : Hid _ := hv2
    obtain ⟨c0, c1, c2, c3⟩ := hF2.c
    have c4 := hF2.x (i := 1) (v := .string m) rfl
    have c5 := hF2.x (i := 3) (v := .iface Ty uy) rfl
    clear hT2 hg2 hF2 hP2 hv2 hh hbd hσ1 HR HH d0 d1 d2 d3 d4
    go_wp2_with fail
    refine Calls.mono (HBD.out w2 (Kept.refl _)) ?_
    rintro e w3 ⟨mb, rfl, d0, d1, d2, d3, d4, d5, HD⟩
    clear HBD c0 c1 c2 c3 c4 c5
    go_wp2_with fail
    refine Calls.mono HD.out ?_
    rintro e w4 ⟨rfl, f0, f1, f2, f3, f4, f5, HR⟩
    clear HD d0 d1 d2 d3 d4 d5 f0 f1 f2 f3 f4 f5
    obtain ⟨hT4, hg4, hF4, hP4⟩ := HR.out
    have hVd : Kept w4 w4.drew := Kept.drew _
    have hT5 := hT4.kept hK hVd
    have hF5 := hF4.kept hVd
    have hP5 := PX.keepT (XKeep.kept hVd) hP4
    have hg5 : Gk B ad ad2 w w4.drew := hg4.trans (Gk.ofKt (Kt.of_kept hVd))
    have HC : Hid (Calls Tryz.prog 104 #[.agg #[.pointer p, .map (some gm)], .string m, .iface T2 u2] w4.drew fun e w5 => ∃ q, e = .returned (.agg #[.pointer (some ⟨q, 0, none⟩), .map (some gm)]) ∧ w5.cell? ⟨w.heap.size, 0, none⟩ = some (.int .i64 fl) ∧ w5.cell? ⟨w.heap.size, 1, none⟩ = some wv ∧ w5.cell? ⟨w.heap.size + 1, 0, none⟩ = some (.pointer p) ∧ w5.cell? ⟨w.heap.size + 1, 1, none⟩ = some (.map (some gm)) ∧ w5.cell? ⟨eb, 1, none⟩ = some (.string m) ∧ w5.cell? ⟨eb, 3, none⟩ = some (.iface Ty uy) ∧
        Hid (Calls Tryz.prog 73 #[.agg #[.int .i64 fl, wv], .iface Ty uy, .agg #[.pointer (some ⟨q, 0, none⟩), .map (some gm)]] w5 fun e w6 => (∃ a, e = thrown (.iface 342 (.pointer (some a))) ∧ TyO A B K ad w (thrown (.iface 342 (.pointer (some a)))) w6 res.2 res.1) ∨ (∃ T3 u3, e = .returned (.iface T3 u3) ∧ w6.cell? ⟨w.heap.size, 0, none⟩ = some (.int .i64 fl) ∧ w6.cell? ⟨w.heap.size, 1, none⟩ = some wv ∧ w6.cell? ⟨w.heap.size + 1, 0, none⟩ = some (.pointer p) ∧ w6.cell? ⟨w.heap.size + 1, 1, none⟩ = some (.map (some gm)) ∧ w6.cell? ⟨eb, 1, none⟩ = some (.string m) ∧ w6.cell? ⟨eb, 3, none⟩ = some (.iface Ty uy) ∧ Hid (TyO A B K ad w (.returned (.iface T3 u3)) w6 res.2 res.1)))) := by
      refine (with_any w4.drew p gm m _ _).mono ?_
      rintro e w5 ⟨qb, rfl, hq, hk5⟩
      have hF6 := hF5.kept hk5
      obtain ⟨e0, e1, e2, e3⟩ := hF6.c
      refine ⟨qb, rfl, e0, e1, e2, e3, hF6.x (i := 1) rfl, hF6.x (i := 3) rfl, ?_⟩
      have hT6 := (hT5.kept hK hk5).with hq HV2.out
      have hg6 := hg5.trans (Gk.ofKt (Kt.of_kept hk5))
      obtain ⟨r6, o6⟩ := res
      refine (STf.call HFF.out HH3.out (hP5.keepT (XKeep.kept hk5)) hT6).mono ?_
      rintro e w6 (⟨j, rfl, rfl, hk, hw⟩ | ⟨q3, T3, u3, ad3, rfl, rfl, hv7, hT7, hg7⟩)
      · exact .inl ⟨_, rfl, rfl, hk, (hg6.trans (Gk.ofKw hw)).kw⟩
      · have hF7 := hF6.gk hg7 (by decide)
        obtain ⟨e0, e1, e2, e3⟩ := hF7.c
        exact .inr ⟨T3, u3, rfl, e0, e1, e2, e3, hF7.x (i := 1) rfl, hF7.x (i := 3) rfl, _, _, rfl, hv7, hT7.sx, hT7.ws, hT7.k, hg6.trans hg7⟩
    obtain ⟨c0, c1, c2, c3⟩ := hF5.c
    have c4 := hF5.x (i := 1) (v := .string m) rfl
    have c5 := hF5.x (i := 3) (v := .iface Ty uy) rfl
    clear hVd hT5 hg5 hF5 hP5 hT4 hg4 hF4 hP4 HR HV2 HH3 HFF
    go_wp2_with fail
    go_region_held2 (fun w' => w'.cell? ⟨w.heap.size, 0, none⟩ = some (.int .i64 fl) ∧ w'.cell? ⟨w.heap.size, 1, none⟩ = some wv ∧ w'.cell? ⟨w.heap.size + 1, 0, none⟩ = some (.pointer p) ∧ w'.cell? ⟨w.heap.size + 1, 1, none⟩ = some (.map (some gm)) ∧ w'.cell? ⟨eb, 1, none⟩ = some (.string m) ∧ w'.cell? ⟨eb, 3, none⟩ = some (.iface Ty uy)) (go_keep) (first | (go_at_call 104; refine Calls.mono HC.out ?_; rintro e w5 ⟨q, rfl, d0, d1, d2, d3, d4, d5, HD⟩; clear HC) | (go_at_call 73; refine Calls.mono HD.out ?_; rintro e w6 (⟨a, rfl, hE⟩ | ⟨T3, u3, rfl, f0, f1, f2, f3, f4, f5, HR⟩); exact ⟨rfl, hE⟩; clear HD))
    all_goals
      go_wp2
      go_ret
      exact HR.out
end Go.Proofs.YtleenphlgbklmabGreatDoor

namespace Go.Proofs.YtleenphlgbklmabGreatDoor
open Go.RowKit

section
variable {ω : Type} (tl : List ByteArray → Nat → List TR → St → ω → Option (Oc Unit × ω)) (A : Nat → Addr) (B : Nat) (K : World → ω → Prop) (gv : Gv) (fuel : Nat) (wv : Value)
/-- the program's typeOfGroup does what the mirror does. -/
def SGr (f : X → List Bd → St → ω → Option (Oc (TR × St) × ω)) : Prop := ∀ (names : List ByteArray) (vs : List X) (y : X) (loc : Nat) (own : List Bd) (σ : St) (o : ω) (res : Oc (TR × St) × ω), recF tl f fuel names vs y own σ o = some res → ∀ (w : World) (ad : List Nat) (eb : Nat) (p : Option Addr) (gm : Nat), PX w (fun _ => True) (.mk { data := #[114, 101, 99] } names (vs ++ [y]) loc) (.iface 250 (.pointer (some ⟨eb, 0, none⟩))) → TI A B K w ad σ own gv p gm o →
  Calls Tryz.prog 147 #[.agg #[.int .i64 fuel, wv], .pointer (some ⟨eb, 0, none⟩), .agg #[.pointer p, .map (some gm)]] w fun e w' => TyO A B K ad w e w' res.2 res.1
end
section
variable {ω : Type} {tl : List ByteArray → Nat → List TR → St → ω → Option (Oc Unit × ω)} {A : Nat → Addr} {B : Nat} {K : World → ω → Prop} {gv : Gv} {fuel : Nat} {wv : Value} {rk : Bool}
theorem knd_sx (hK : KOk K) {f : X → List Bd → St → ω → Option (Oc (TR × St) × ω)} (hf : STf A B K gv fuel wv f) (hr : rk = true → SGr tl A B K gv fuel wv f) {x : X} {own : List Bd} {σ : St} {o : ω} {res : Oc (TR × St) × ω} (h : kndF tl rk gv fuel f x own σ o = some res) {w : World} {ad : List Nat} {v : Value} {p : Option Addr} {gm : Nat} (hx : PX w (fun _ => True) x v) (hT : TI A B K w ad σ own gv p gm o) :
    Calls Tryz.prog 106 #[.agg #[.int .i64 fuel, wv], v, .agg #[.pointer p, .map (some gm)]] w fun e w' => TyO A B K ad w e w' res.2 res.1 := by
  cases hx with
  | name n loc b hW _ hb =>
    have e : kndF tl rk gv fuel f (.mk { data := #[110, 97, 109, 101] } [n] [] loc) own σ o = (nameF gv n own σ).bind fun r => some (r, o) := rfl
    rw [e] at h
    simp only [Option.bind_eq_some_iff, Option.some.injEq] at h
    obtain ⟨r, hr, rfl⟩ := h
    exact k_name (fun W hk => tname_sx hK (hT.kept hK hk) (hk.blk hb) hr)
  | num n loc b hW _ hb =>
    have e : kndF tl rk gv fuel f (.mk { data := #[110, 117, 109] } [n] [] loc) own σ o = some (.ok (.int, σ), o) := rfl
    rw [e] at h
    simp only [Option.some.injEq] at h
    subst h
    exact k_num hK hT
  | fn n x loc b q hW _ hb hq =>
    have e : kndF tl rk gv fuel f (.mk { data := #[102, 117, 110] } [n] [x] loc) own σ o = funF f n x own σ o := rfl
    rw [e] at h
    exact k_fun hK hf h hT hb hq
  | ite x y z loc b q r s _ hb hq hr hs =>
    have e : kndF tl rk gv fuel f (.mk { data := #[105, 102] } [] [x, y, z] loc) own σ o = ifF f x y z own σ o := rfl
    rw [e] at h
    exact k_if (fun W hk => tif_sx hK hf h (hT.kept hK hk) (hk.blk hb) (hq.keepT (XKeep.kept hk)) (hr.keepT (XKeep.kept hk)) (hs.keepT (XKeep.kept hk)))
  | lt n x y loc b q r hW _ hb hq hr =>
    have e : kndF tl rk gv fuel f (.mk { data := #[108, 101, 116] } [n] [x, y] loc) own σ o = letF f n x y own σ o := rfl
    rw [e] at h
    exact k_let hK hf h hT hb hq hr
  | app x y loc b q r _ hb hq hr =>
    have e : kndF tl rk gv fuel f (.mk { data := #[97, 112, 112] } [] [x, y] loc) own σ o = appF f x y own σ o := rfl
    rw [e] at h
    exact k_app (fun W hk => tapp_sx hK hf h (hT.kept hK hk) (hk.blk hb) (hq.keepT (XKeep.kept hk)) (hr.keepT (XKeep.kept hk)))
  | pair x y loc b q r _ hb hq hr =>
    have e : kndF tl rk gv fuel f (.mk { data := #[112, 97, 105, 114] } [] [x, y] loc) own σ o = twoF f x y own σ o := rfl
    rw [e] at h
    exact k_pair hK hf h hT hb hq hr
  | rc names kids y loc b nv vv q ps h1 h2 h3 h4 h5 h6 h7 h8 h9 h10 h11 h12 =>
    have e : kndF tl rk gv fuel f (.mk { data := #[114, 101, 99] } names (kids ++ [y]) loc) own σ o = if rk = true then (match (kids ++ [y]).reverse with | y :: vs => recF tl f fuel names vs.reverse y own σ o | [] => none) else none := by
      cases rk <;> rfl
    rw [e] at h
    split at h
    · rename_i hrk
      simp only [List.reverse_append, List.reverse_cons, List.reverse_nil, List.nil_append, List.cons_append, List.reverse_reverse] at h
      exact k_rec (fun W hk => hr hrk names kids y loc own σ o res h W ad b p gm (PX.keepT (XKeep.kept hk) (.rc names kids y loc b nv vv q ps h1 h2 h3 h4 h5 h6 h7 h8 h9 h10 h11 h12)) (hT.kept hK hk))
    · simp at h
set_option maxRecDepth 20000 in
set_option maxHeartbeats 2000000 in
theorem typ_sx (hK : KOk K) (hr : rk = true → ∀ f, STf A B K gv fuel wv f → SGr tl A B K gv fuel wv f) : ∀ n, STf A B K gv fuel wv (fun x own σ o => typF tl rk gv fuel n x own σ o) := by
  intro n
  induction n with
  | zero => intro x own σ o res h; simp [typF] at h
  | succ n ih =>
    intro x own σ o res h w ad v p gm hx hT
    simp only [typF, Option.bind_eq_some_iff] at h
    obtain ⟨⟨r1, o1⟩, h1, h⟩ := h
    have hk0 : Kept w ((w.alloc (.cells #[.int .i64 fuel, wv] 103)).alloc (.cells #[.pointer p, .map (some gm)] 168)) := (Kept.alloc _ _).trans (Kept.alloc _ _)
    obtain ⟨T, u, rfl⟩ := hx.iface
    have HC : Hid _ := fun (W : World) (hk : Kept w W) => knd_sx (p := p) (gm := gm) (w := W) (ad := ad) hK ih (fun z => hr z _ ih) h1 (hx.keepT (XKeep.kept hk)) (hT.kept hK hk)
    have HH : Hid _ := h
    have HT : Hid _ := hT
    have HIH : Hid _ := ih
    clear hT hx h1 h ih hr
    go_enter Tryz.func73, Tryz.ntmps73
    go_wp2_with fail
    refine Calls.mono (HC.out _ hk0) ?_
    intro e w2 hE
    have hE := TyO.pre (Gk.ofKt (B := B) (Kt.of_kept (ad := ad) hk0)) hE
    have hh := HH.out
    cases r1 with
    | er j =>
      simp only [Option.some.injEq] at hh
      subst hh
      obtain ⟨he, hE⟩ := hE
      rw [show e = _ from he]
      exact ⟨rfl, rfl, hE⟩
    | ok q =>
      obtain ⟨v2, ad2, rfl, hv2, hs2, hw2, hk2, hg2⟩ := hE
      simp only [Option.bind_eq_some_iff] at hh
      obtain ⟨big, hbig, hh⟩ := hh
      have HR : Hid _ := rbig_sx hbig w2 ad2 v2 (hg2.ga HT.out.ga) hs2 hv2
      have HV : Hid _ := hv2
      have HW : Hid _ := hw2
      have HKW : Hid _ := hk2
      have HG : Hid _ := hg2
      obtain ⟨T2, u2, rfl⟩ := hv2.iface
      have HHH : Hid _ := hh
      clear hbig hh hv2 hw2 hk2 hg2 hs2 hk0 HC HH
      go_wp2_with fail
      refine Calls.mono HR.out ?_
      rintro e w3 (⟨rfl, he, hk3⟩ | ⟨rfl, rfl, hs3, hk3⟩)
      · have hh := HHH.out
        simp only [if_true, Option.some.injEq] at hh
        subst hh
        rw [show e = _ from he]
        exact ⟨rfl, rfl, hK _ _ _ _ HKW.out hk3, (HG.out.trans (Gk.ofKt hk3)).kw⟩
      · have hh := HHH.out
        simp only [Bool.false_eq_true, if_false, Option.some.injEq] at hh
        subst hh
        have HF : Hid (TyO A B K ad w (.returned (.iface T2 u2)) w3 o1 (.ok q)) := ⟨_, ad2, rfl, HV.out, hs3, HW.out, hK _ _ _ _ HKW.out hk3, HG.out.trans (Gk.ofKt hk3)⟩
        clear hs3 hk3 HR
        go_wp2
        go_ret
        exact HF.out
end
end Go.Proofs.YtleenphlgbklmabGreatDoor
