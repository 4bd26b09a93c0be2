import Derived.Test.YtleenphlgbklmabGreatDoorZPGv
set_option linter.unusedVariables false
set_option linter.unusedSimpArgs false
namespace Go.Proofs.YtleenphlgbklmabGreatDoor
open Go.RowKit

set_option maxRecDepth 20000 in
set_option maxHeartbeats 4000000 in
theorem c_num {w : World} {p : Option Addr} {gm eb : Nat} : Calls Tryz.prog 72 #[.iface 259 (.pointer (some ⟨eb, 0, none⟩)), .agg #[.pointer p, .map (some gm)]] w (ChO w none) := by
  have q0 := fun W => Tryz.xNuNa (.pointer (some ⟨eb, 0, none⟩)) W
  have q1 := fun W => Tryz.xNuFu (.pointer (some ⟨eb, 0, none⟩)) W
  have q2 := fun W => Tryz.xNuIf (.pointer (some ⟨eb, 0, none⟩)) W
  have q3 := fun W => Tryz.xNuLe (.pointer (some ⟨eb, 0, none⟩)) W
  have q4 := fun W => Tryz.xNuRe (.pointer (some ⟨eb, 0, none⟩)) W
  have q5 := fun W => Tryz.xNuAp (.pointer (some ⟨eb, 0, none⟩)) W
  have q6 := fun W => Tryz.xNuPa (.pointer (some ⟨eb, 0, none⟩)) W
  have HF : Hid (ChO w none (.returned (.tuple #[])) (w.alloc (.cells #[.pointer p, .map (some gm)] 168))) := ⟨Kept.alloc _ _, rfl⟩
  go_enter Tryz.func72, Tryz.ntmps72
  go_wp2
  exact bodyPost_end (results_none Tryz.results72 _ _ _) rfl HF.out
set_option maxRecDepth 20000 in
set_option maxHeartbeats 4000000 in
theorem c_fun {gv : Gv} {f : X → List Bd → Option (Option (Nat × ByteArray))} (hf : SCk gv f) {m : ByteArray} {x : X} {own : List Bd} {r : Option (Nat × ByteArray)} (h : f x (⟨m, .int, false⟩ :: own) = some r) {w : World} {ad : List Nat} {p : Option Addr} {gm : Nat} (hT : CI w ad own gv p gm) {eb dpt : Nat} {vx : Value} (hb : w.heap[eb]? = some (.cells #[.int .i64 dpt, .string m, vx] 242 (0, 0))) (hx : PX w (fun _ => True) x vx) :
    Calls Tryz.prog 72 #[.iface 240 (.pointer (some ⟨eb, 0, none⟩)), .agg #[.pointer p, .map (some gm)]] w (ChO w r) := by
  have q0 := fun W => Tryz.xFuNa (.pointer (some ⟨eb, 0, none⟩)) W
  have q1 := fun W => Tryz.xFuFu (.pointer (some ⟨eb, 0, none⟩)) W
  obtain ⟨hF, hk0⟩ := fc_start w eb p gm hb
  obtain ⟨Tx, ux, rfl⟩ := hx.iface
  go_enter Tryz.func72, Tryz.ntmps72
  go_wp2_with fail
  clear q0 q1
  generalize w.alloc (.cells #[.pointer p, .map (some gm)] 168) = W at *
  have hkd : Kept w W.drew := hk0.trans (Kept.drew W)
  have hF := hF.kept (Kept.drew W)
  have HC : Hid (Calls Tryz.prog 104 #[.agg #[.pointer p, .map (some gm)], .string m, .nilIface] W.drew fun e w2 => ∃ q, e = .returned (.agg #[.pointer (some ⟨q, 0, none⟩), .map (some gm)]) ∧ w2.cell? ⟨w.heap.size, 0, none⟩ = some (.pointer p) ∧ w2.cell? ⟨w.heap.size, 1, none⟩ = some (.map (some gm)) ∧ w2.cell? ⟨eb, 1, none⟩ = some (.string m) ∧ w2.cell? ⟨eb, 2, none⟩ = some (.iface Tx ux) ∧
      Hid (Calls Tryz.prog 72 #[.iface Tx ux, .agg #[.pointer (some ⟨q, 0, none⟩), .map (some gm)]] w2 fun e w3 => (∃ b, e = thrown (.iface 84 (.pointer (some ⟨b, 0, none⟩))) ∧ ChO w r (thrown (.iface 84 (.pointer (some ⟨b, 0, none⟩)))) w3) ∨ (e = .returned (.tuple #[]) ∧ w3.cell? ⟨w.heap.size, 0, none⟩ = some (.pointer p) ∧ w3.cell? ⟨w.heap.size, 1, none⟩ = some (.map (some gm)) ∧ w3.cell? ⟨eb, 1, none⟩ = some (.string m) ∧ w3.cell? ⟨eb, 2, none⟩ = some (.iface Tx ux) ∧ Hid (ChO w r (.returned (.tuple #[])) w3)))) := by
    refine (with_nil W.drew p gm m).mono ?_
    rintro e w2 ⟨q, rfl, hq, hk2⟩
    have hF2 := hF.kept hk2
    have hk3 := hkd.trans hk2
    refine ⟨q, rfl, hF2.c.1, hF2.c.2, hF2.x (i := 1) rfl, hF2.x (i := 2) rfl, ?_⟩
    refine (hf x _ r h w2 ad _ _ gm (hx.keepT (XKeep.kept hk3)) ((hT.kept hk3).with hq)).mono ?_
    intro e w3 hE
    rcases hE.split with ⟨q, b, rfl, rfl, hE⟩ | ⟨rfl, rfl, hk⟩
    · exact .inl ⟨b, rfl, hE.pre hk3⟩
    · have hF4 := hF2.kept hk
      exact .inr ⟨rfl, hF4.c.1, hF4.c.2, hF4.x (i := 1) rfl, hF4.x (i := 2) rfl, hk3.trans hk, rfl⟩
  obtain ⟨c0, c1⟩ := hF.c
  have c2 := hF.x (i := 1) (v := .string m) rfl
  have c3 := hF.x (i := 2) (v := .iface Tx ux) rfl
  clear hT hF hk0 hkd hx hf h hb
  go_region_held2 (fun w' => w'.cell? ⟨w.heap.size, 0, none⟩ = some (.pointer p) ∧ w'.cell? ⟨w.heap.size, 1, none⟩ = some (.map (some gm)) ∧ w'.cell? ⟨eb, 1, none⟩ = some (.string m) ∧ w'.cell? ⟨eb, 2, none⟩ = some (.iface Tx ux)) (go_keep) (first | (go_at_call 104; refine Calls.mono HC.out ?_; rintro e w2 ⟨q, rfl, d0, d1, d2, d3, HD⟩; clear HC) | (go_at_call 72; refine Calls.mono HD.out ?_; rintro e w3 (⟨a, rfl, hE⟩ | ⟨rfl, f0, f1, f2, f3, HR⟩); exact ⟨rfl, hE⟩; clear HD))
  all_goals
    go_wp2
    exact bodyPost_end (results_none Tryz.results72 _ _ _) rfl HR.out
set_option maxRecDepth 20000 in
set_option maxHeartbeats 4000000 in
theorem c_let {gv : Gv} {f : X → List Bd → Option (Option (Nat × ByteArray))} (hf : SCk gv f) {m : ByteArray} {x y : X} {own : List Bd} {r : Option (Nat × ByteArray)} (h : sqF (f x own) (f y (⟨m, .int, false⟩ :: own)) = some r) {w : World} {ad : List Nat} {p : Option Addr} {gm : Nat} (hT : CI w ad own gv p gm) {eb dpt : Nat} {vx vy : Value} (hb : w.heap[eb]? = some (.cells #[.int .i64 dpt, .string m, vx, vy] 249 (0, 0))) (hx : PX w (fun _ => True) x vx) (hy : PX w (fun _ => True) y vy) :
    Calls Tryz.prog 72 #[.iface 247 (.pointer (some ⟨eb, 0, none⟩)), .agg #[.pointer p, .map (some gm)]] w (ChO w r) := by
  have q0 := fun W => Tryz.xLeNa (.pointer (some ⟨eb, 0, none⟩)) W
  have q1 := fun W => Tryz.xLeFu (.pointer (some ⟨eb, 0, none⟩)) W
  have q2 := fun W => Tryz.xLeIf (.pointer (some ⟨eb, 0, none⟩)) W
  have q3 := fun W => Tryz.xLeLe (.pointer (some ⟨eb, 0, none⟩)) W
  simp only [sqF, Option.bind_eq_some_iff] at h
  obtain ⟨r1, h1, h⟩ := h
  obtain ⟨hF, hk0⟩ := fc_start w eb p gm hb
  obtain ⟨Tx, ux, rfl⟩ := hx.iface
  obtain ⟨Ty, uy, rfl⟩ := hy.iface
  go_enter Tryz.func72, Tryz.ntmps72
  go_wp2_with fail
  clear q0 q1 q2 q3
  generalize w.alloc (.cells #[.pointer p, .map (some gm)] 168) = W at *
  have hkd : Kept w W.drew := hk0.trans (Kept.drew W)
  have hF := hF.kept (Kept.drew W)
  have HC : Hid (Calls Tryz.prog 72 #[.iface Tx ux, .agg #[.pointer p, .map (some gm)]] W.drew fun e w2 => (∃ b, e = thrown (.iface 84 (.pointer (some ⟨b, 0, none⟩))) ∧ ChO w r (thrown (.iface 84 (.pointer (some ⟨b, 0, none⟩)))) w2) ∨ (e = .returned (.tuple #[]) ∧ w2.cell? ⟨w.heap.size, 0, none⟩ = some (.pointer p) ∧ w2.cell? ⟨w.heap.size, 1, none⟩ = some (.map (some gm)) ∧ w2.cell? ⟨eb, 2, none⟩ = some (.iface Tx ux) ∧ Hid (r1 = none ∧ Kept w w2 ∧ FC w2 w.heap.size eb p gm #[.int .i64 dpt, .string m, .iface Tx ux, .iface Ty uy] 249))) := by
    refine (hf x own r1 h1 W.drew ad _ p gm (hx.keepT (XKeep.kept hkd)) (hT.kept hkd)).mono ?_
    intro e w2 hE
    rcases hE.split with ⟨q, b, rfl, rfl, hE⟩ | ⟨rfl, rfl, hk⟩
    · simp only [Option.some.injEq] at h
      subst h
      exact .inl ⟨b, rfl, hE.pre hkd⟩
    · have hF2 := hF.kept hk
      exact .inr ⟨rfl, hF2.c.1, hF2.c.2, hF2.x (i := 2) rfl, rfl, hkd.trans hk, hF2⟩
  obtain ⟨c0, c1⟩ := hF.c
  have c2 := hF.x (i := 2) (v := .iface Tx ux) rfl
  have HT : Hid _ := hT
  have HFF : Hid _ := hf
  have HH : Hid _ := h
  have HY : Hid _ := hy
  clear hT hF hk0 hkd hx hy h1 hf h hb
  go_region_held2 (fun w' => w'.cell? ⟨w.heap.size, 0, none⟩ = some (.pointer p) ∧ w'.cell? ⟨w.heap.size, 1, none⟩ = some (.map (some gm)) ∧ w'.cell? ⟨eb, 2, none⟩ = some (.iface Tx ux)) (go_keep) (first | (go_at_call 72; refine Calls.mono HC.out ?_; rintro e w2 (⟨a, rfl, hE⟩ | ⟨rfl, d0, d1, d2, HR⟩); exact ⟨rfl, hE⟩; clear HC))
  all_goals
    obtain ⟨rfl, hk2, hF2⟩ := HR.out
    have hkd : Kept w w2.drew := hk2.trans (Kept.drew w2)
    have hF3 := hF2.kept (Kept.drew w2)
    have HC : Hid (Calls Tryz.prog 104 #[.agg #[.pointer p, .map (some gm)], .string m, .nilIface] w2.drew fun e w3 => ∃ q, e = .returned (.agg #[.pointer (some ⟨q, 0, none⟩), .map (some gm)]) ∧ w3.cell? ⟨w.heap.size, 0, none⟩ = some (.pointer p) ∧ w3.cell? ⟨w.heap.size, 1, none⟩ = some (.map (some gm)) ∧ w3.cell? ⟨eb, 1, none⟩ = some (.string m) ∧ w3.cell? ⟨eb, 3, none⟩ = some (.iface Ty uy) ∧
        Hid (Calls Tryz.prog 72 #[.iface Ty uy, .agg #[.pointer (some ⟨q, 0, none⟩), .map (some gm)]] w3 fun e w4 => (∃ b, e = thrown (.iface 84 (.pointer (some ⟨b, 0, none⟩))) ∧ ChO w r (thrown (.iface 84 (.pointer (some ⟨b, 0, none⟩)))) w4) ∨ (e = .returned (.tuple #[]) ∧ w4.cell? ⟨w.heap.size, 0, none⟩ = some (.pointer p) ∧ w4.cell? ⟨w.heap.size, 1, none⟩ = some (.map (some gm)) ∧ w4.cell? ⟨eb, 1, none⟩ = some (.string m) ∧ w4.cell? ⟨eb, 3, none⟩ = some (.iface Ty uy) ∧ Hid (ChO w r (.returned (.tuple #[])) w4)))) := by
      refine (with_nil w2.drew p gm m).mono ?_
      rintro e w3 ⟨q, rfl, hq, hk3⟩
      have hF4 := hF3.kept hk3
      have hk4 := hkd.trans hk3
      refine ⟨q, rfl, hF4.c.1, hF4.c.2, hF4.x (i := 1) rfl, hF4.x (i := 3) rfl, ?_⟩
      refine (HFF.out y _ r HH.out w3 ad _ _ gm (PX.keepT (XKeep.kept hk4) HY.out) ((HT.out.kept hk4).with hq)).mono ?_
      intro e w4 hE
      rcases hE.split with ⟨q, b, rfl, rfl, hE⟩ | ⟨rfl, rfl, hk⟩
      · exact .inl ⟨b, rfl, hE.pre hk4⟩
      · have hF5 := hF4.kept hk
        exact .inr ⟨rfl, hF5.c.1, hF5.c.2, hF5.x (i := 1) rfl, hF5.x (i := 3) rfl, hk4.trans hk, rfl⟩
    obtain ⟨c0, c1⟩ := hF3.c
    have c2 := hF3.x (i := 1) (v := .string m) rfl
    have c3 := hF3.x (i := 3) (v := .iface Ty uy) rfl
    clear hk2 hF2 hkd hF3 HR HFF HH HT HY d0 d1 d2
    go_wp2_with fail
    go_region_held2 (fun w' => w'.cell? ⟨w.heap.size, 0, none⟩ = some (.pointer p) ∧ w'.cell? ⟨w.heap.size, 1, none⟩ = some (.map (some gm)) ∧ w'.cell? ⟨eb, 1, none⟩ = some (.string m) ∧ w'.cell? ⟨eb, 3, none⟩ = some (.iface Ty uy)) (go_keep) (first | (go_at_call 104; refine Calls.mono HC.out ?_; rintro e w3 ⟨q, rfl, d0, d1, d2, d3, HD⟩; clear HC) | (go_at_call 72; refine Calls.mono HD.out ?_; rintro e w4 (⟨a, rfl, hE⟩ | ⟨rfl, f0, f1, f2, f3, HR⟩); exact ⟨rfl, hE⟩; clear HD))
    all_goals
      go_wp2
      exact bodyPost_end (results_none Tryz.results72 _ _ _) rfl HR.out
set_option maxRecDepth 20000 in
set_option maxHeartbeats 4000000 in
theorem c_if {gv : Gv} {f : X → List Bd → Option (Option (Nat × ByteArray))} (hf : SCk gv f) {x y z : X} {own : List Bd} {r : Option (Nat × ByteArray)} (h : sqF (f x own) (sqF (f y own) (f z own)) = some r) {w : World} {ad : List Nat} {p : Option Addr} {gm : Nat} (hT : CI w ad own gv p gm) {eb dpt : Nat} {vx vy vz : Value} (hb : w.heap[eb]? = some (.cells #[.int .i64 dpt, vx, vy, vz] 246 (0, 0))) (hx : PX w (fun _ => True) x vx) (hy : PX w (fun _ => True) y vy) (hz : PX w (fun _ => True) z vz) :
    Calls Tryz.prog 72 #[.iface 244 (.pointer (some ⟨eb, 0, none⟩)), .agg #[.pointer p, .map (some gm)]] w (ChO w r) := by
  have q0 := fun W => Tryz.xIfNa (.pointer (some ⟨eb, 0, none⟩)) W
  have q1 := fun W => Tryz.xIfFu (.pointer (some ⟨eb, 0, none⟩)) W
  have q2 := fun W => Tryz.xIfIf (.pointer (some ⟨eb, 0, none⟩)) W
  simp only [sqF, Option.bind_eq_some_iff] at h
  obtain ⟨r1, h1, h⟩ := h
  obtain ⟨hF, hk0⟩ := fc_start w eb p gm hb
  obtain ⟨Tx, ux, rfl⟩ := hx.iface
  obtain ⟨Ty, uy, rfl⟩ := hy.iface
  obtain ⟨Tz, uz, rfl⟩ := hz.iface
  go_enter Tryz.func72, Tryz.ntmps72
  go_wp2_with fail
  clear q0 q1 q2
  generalize w.alloc (.cells #[.pointer p, .map (some gm)] 168) = W at *
  have hkd : Kept w W.drew := hk0.trans (Kept.drew W)
  have hF := hF.kept (Kept.drew W)
  have HC : Hid (Calls Tryz.prog 72 #[.iface Tx ux, .agg #[.pointer p, .map (some gm)]] W.drew fun e w2 => (∃ b, e = thrown (.iface 84 (.pointer (some ⟨b, 0, none⟩))) ∧ ChO w r (thrown (.iface 84 (.pointer (some ⟨b, 0, none⟩)))) w2) ∨ (e = .returned (.tuple #[]) ∧ w2.cell? ⟨w.heap.size, 0, none⟩ = some (.pointer p) ∧ w2.cell? ⟨w.heap.size, 1, none⟩ = some (.map (some gm)) ∧ w2.cell? ⟨eb, 1, none⟩ = some (.iface Tx ux) ∧ Hid (r1 = none ∧ Kept w w2 ∧ FC w2 w.heap.size eb p gm #[.int .i64 dpt, .iface Tx ux, .iface Ty uy, .iface Tz uz] 246))) := by
    refine (hf x own r1 h1 W.drew ad _ p gm (hx.keepT (XKeep.kept hkd)) (hT.kept hkd)).mono ?_
    intro e w2 hE
    rcases hE.split with ⟨q, b, rfl, rfl, hE⟩ | ⟨rfl, rfl, hk⟩
    · simp only [Option.some.injEq] at h
      subst h
      exact .inl ⟨b, rfl, hE.pre hkd⟩
    · have hF2 := hF.kept hk
      exact .inr ⟨rfl, hF2.c.1, hF2.c.2, hF2.x (i := 1) rfl, rfl, hkd.trans hk, hF2⟩
  obtain ⟨c0, c1⟩ := hF.c
  have c2 := hF.x (i := 1) (v := .iface Tx ux) rfl
  have HT : Hid _ := hT
  have HFF : Hid _ := hf
  have HH : Hid _ := h
  have HY : Hid _ := hy
  have HZ : Hid _ := hz
  clear hT hF hk0 hkd hx hy hz h1 hf h hb
  go_region_held2 (fun w' => w'.cell? ⟨w.heap.size, 0, none⟩ = some (.pointer p) ∧ w'.cell? ⟨w.heap.size, 1, none⟩ = some (.map (some gm)) ∧ w'.cell? ⟨eb, 1, none⟩ = some (.iface Tx ux)) (go_keep) (first | (go_at_call 72; refine Calls.mono HC.out ?_; rintro e w2 (⟨a, rfl, hE⟩ | ⟨rfl, d0, d1, d2, HR⟩); exact ⟨rfl, hE⟩; clear HC))
  all_goals
    obtain ⟨rfl, hk2, hF2⟩ := HR.out
    have hh := HH.out
    simp only [Option.bind_eq_some_iff] at hh
    obtain ⟨r2, h2, hh⟩ := hh
    have hkd : Kept w w2.drew := hk2.trans (Kept.drew w2)
    have hF3 := hF2.kept (Kept.drew w2)
    have HC : Hid (Calls Tryz.prog 72 #[.iface Ty uy, .agg #[.pointer p, .map (some gm)]] w2.drew fun e w3 => (∃ b, e = thrown (.iface 84 (.pointer (some ⟨b, 0, none⟩))) ∧ ChO w r (thrown (.iface 84 (.pointer (some ⟨b, 0, none⟩)))) w3) ∨ (e = .returned (.tuple #[]) ∧ w3.cell? ⟨w.heap.size, 0, none⟩ = some (.pointer p) ∧ w3.cell? ⟨w.heap.size, 1, none⟩ = some (.map (some gm)) ∧ w3.cell? ⟨eb, 2, none⟩ = some (.iface Ty uy) ∧ Hid (r2 = none ∧ Kept w w3 ∧ FC w3 w.heap.size eb p gm #[.int .i64 dpt, .iface Tx ux, .iface Ty uy, .iface Tz uz] 246))) := by
      refine (HFF.out y own r2 h2 w2.drew ad _ p gm (PX.keepT (XKeep.kept hkd) HY.out) (HT.out.kept hkd)).mono ?_
      intro e w3 hE
      rcases hE.split with ⟨q, b, rfl, rfl, hE⟩ | ⟨rfl, rfl, hk⟩
      · simp only [Option.some.injEq] at hh
        subst hh
        exact .inl ⟨b, rfl, hE.pre hkd⟩
      · have hF4 := hF3.kept hk
        exact .inr ⟨rfl, hF4.c.1, hF4.c.2, hF4.x (i := 2) rfl, rfl, hkd.trans hk, hF4⟩
    obtain ⟨c0, c1⟩ := hF3.c
    have c2 := hF3.x (i := 2) (v := .iface Ty uy) rfl
    have HH3 : Hid _ := hh
    clear hk2 hF2 hkd hF3 HR HH HY d0 d1 d2 hh h2
    go_wp2_with fail
    go_region_held2 (fun w' => w'.cell? ⟨w.heap.size, 0, none⟩ = some (.pointer p) ∧ w'.cell? ⟨w.heap.size, 1, none⟩ = some (.map (some gm)) ∧ w'.cell? ⟨eb, 2, none⟩ = some (.iface Ty uy)) (go_keep) (first | (go_at_call 72; refine Calls.mono HC.out ?_; rintro e w3 (⟨a, rfl, hE⟩ | ⟨rfl, d0, d1, d2, HR⟩); exact ⟨rfl, hE⟩; clear HC))
    all_goals
      obtain ⟨rfl, hk3, hF3⟩ := HR.out
      have hkd : Kept w w3.drew := hk3.trans (Kept.drew w3)
      have hF4 := hF3.kept (Kept.drew w3)
      have HC : Hid (Calls Tryz.prog 72 #[.iface Tz uz, .agg #[.pointer p, .map (some gm)]] w3.drew fun e w4 => (∃ b, e = thrown (.iface 84 (.pointer (some ⟨b, 0, none⟩))) ∧ ChO w r (thrown (.iface 84 (.pointer (some ⟨b, 0, none⟩)))) w4) ∨ (e = .returned (.tuple #[]) ∧ w4.cell? ⟨w.heap.size, 0, none⟩ = some (.pointer p) ∧ w4.cell? ⟨w.heap.size, 1, none⟩ = some (.map (some gm)) ∧ w4.cell? ⟨eb, 3, none⟩ = some (.iface Tz uz) ∧ Hid (ChO w r (.returned (.tuple #[])) w4))) := by
        refine (HFF.out z own r HH3.out w3.drew ad _ p gm (PX.keepT (XKeep.kept hkd) HZ.out) (HT.out.kept hkd)).mono ?_
        intro e w4 hE
        rcases hE.split with ⟨q, b, rfl, rfl, hE⟩ | ⟨rfl, rfl, hk⟩
        · exact .inl ⟨b, rfl, hE.pre hkd⟩
        · have hF5 := hF4.kept hk
          exact .inr ⟨rfl, hF5.c.1, hF5.c.2, hF5.x (i := 3) rfl, hkd.trans hk, rfl⟩
      obtain ⟨c0, c1⟩ := hF4.c
      have c2 := hF4.x (i := 3) (v := .iface Tz uz) rfl
      clear hk3 hF3 hkd hF4 HR HFF HH3 HT HZ d0 d1 d2
      go_wp2_with fail
      go_region_held2 (fun w' => w'.cell? ⟨w.heap.size, 0, none⟩ = some (.pointer p) ∧ w'.cell? ⟨w.heap.size, 1, none⟩ = some (.map (some gm)) ∧ w'.cell? ⟨eb, 3, none⟩ = some (.iface Tz uz)) (go_keep) (first | (go_at_call 72; refine Calls.mono HC.out ?_; rintro e w4 (⟨a, rfl, hE⟩ | ⟨rfl, d0, d1, d2, HR⟩); exact ⟨rfl, hE⟩; clear HC))
      all_goals
        go_wp2
        exact bodyPost_end (results_none Tryz.results72 _ _ _) rfl HR.out
set_option maxRecDepth 20000 in
set_option maxHeartbeats 4000000 in
theorem c_name_ok {gv : Gv} {n : ByteArray} {own : List Bd} {w : World} {ad : List Nat} {p : Option Addr} {gm : Nat} (hT : CI w ad own gv p gm) {eb loc : Nat} (hb : w.heap[eb]? = some (.cells #[.int .i64 1, .string n, .int .i64 loc] 239 (0, 0))) (hf : (findF n gv own).isSome = true) :
    Calls Tryz.prog 72 #[.iface 233 (.pointer (some ⟨eb, 0, none⟩)), .agg #[.pointer p, .map (some gm)]] w (ChO w (none)) := by
  have q0 := fun W => Tryz.xNaNa (.pointer (some ⟨eb, 0, none⟩)) W
  obtain ⟨hF, hk0⟩ := fc_start w eb p gm hb
  go_enter Tryz.func72, Tryz.ntmps72
  go_wp2_with fail
  clear q0
  generalize w.alloc (.cells #[.pointer p, .map (some gm)] 168) = W at *
  have hkd : Kept w W.drew := hk0.trans (Kept.drew W)
  have hF := hF.kept (Kept.drew W)
  have HC : Hid (Calls Tryz.prog 103 #[.agg #[.pointer p, .map (some gm)], .string n] W.drew fun e w2 => ∃ v, e = .returned (.tuple #[v, .bool true]) ∧ w2.cell? ⟨w.heap.size, 0, none⟩ = some (.pointer p) ∧ w2.cell? ⟨w.heap.size, 1, none⟩ = some (.map (some gm)) ∧ w2.cell? ⟨eb, 1, none⟩ = some (.string n) ∧ w2.cell? ⟨eb, 2, none⟩ = some (.int .i64 loc) ∧ Hid (Kept w w2 ∧ FC w2 w.heap.size eb p gm #[.int .i64 1, .string n, .int .i64 loc] 239)) := by
    refine (find_ck (hT.kept hkd) n).mono ?_
    rintro e w2 ⟨hk, v, rfl⟩
    have hF2 := hF.kept hk
    rw [hf]
    exact ⟨v, rfl, hF2.c.1, hF2.c.2, hF2.x (i := 1) rfl, hF2.x (i := 2) rfl, hkd.trans hk, hF2⟩
  obtain ⟨c0, c1⟩ := hF.c
  have c2 := hF.x (i := 1) (v := .string n) rfl
  have c3 := hF.x (i := 2) (v := .int .i64 loc) rfl
  clear hT hF hk0 hkd hb hf
  go_region_held2 (fun w' => w'.cell? ⟨w.heap.size, 0, none⟩ = some (.pointer p) ∧ w'.cell? ⟨w.heap.size, 1, none⟩ = some (.map (some gm)) ∧ w'.cell? ⟨eb, 1, none⟩ = some (.string n) ∧ w'.cell? ⟨eb, 2, none⟩ = some (.int .i64 loc)) (go_keep) (first | (go_at_call 103; refine Calls.mono HC.out ?_; rintro e w2 ⟨v, rfl, d0, d1, d2, d3, HR⟩; clear HC))
  all_goals
    obtain ⟨hk2, hF2⟩ := HR.out
    have HF : Hid (ChO w none (.returned (.tuple #[])) w2) := ⟨hk2, rfl⟩
    clear hk2 hF2 HR
    go_wp2
    exact bodyPost_end (results_none Tryz.results72 _ _ _) rfl HF.out
set_option maxRecDepth 20000 in
set_option maxHeartbeats 4000000 in
theorem c_name_no {gv : Gv} {n : ByteArray} {own : List Bd} {w : World} {ad : List Nat} {p : Option Addr} {gm : Nat} (hT : CI w ad own gv p gm) {eb loc : Nat} (hn : n.size ≤ 1000000) (hb : w.heap[eb]? = some (.cells #[.int .i64 1, .string n, .int .i64 loc] 239 (0, 0))) (hf : (findF n gv own).isSome = false) :
    Calls Tryz.prog 72 #[.iface 233 (.pointer (some ⟨eb, 0, none⟩)), .agg #[.pointer p, .map (some gm)]] w (ChO w (some (loc, n))) := by
  have q0 := fun W => Tryz.xNaNa (.pointer (some ⟨eb, 0, none⟩)) W
  obtain ⟨hF, hk0⟩ := fc_start w eb p gm hb
  go_enter Tryz.func72, Tryz.ntmps72
  go_wp2_with fail
  clear q0
  generalize w.alloc (.cells #[.pointer p, .map (some gm)] 168) = W at *
  have hkd : Kept w W.drew := hk0.trans (Kept.drew W)
  have hF := hF.kept (Kept.drew W)
  have HC : Hid (Calls Tryz.prog 103 #[.agg #[.pointer p, .map (some gm)], .string n] W.drew fun e w2 => ∃ v, e = .returned (.tuple #[v, .bool false]) ∧ w2.cell? ⟨w.heap.size, 0, none⟩ = some (.pointer p) ∧ w2.cell? ⟨w.heap.size, 1, none⟩ = some (.map (some gm)) ∧ w2.cell? ⟨eb, 1, none⟩ = some (.string n) ∧ w2.cell? ⟨eb, 2, none⟩ = some (.int .i64 loc) ∧ Hid (Kept w w2 ∧ FC w2 w.heap.size eb p gm #[.int .i64 1, .string n, .int .i64 loc] 239)) := by
    refine (find_ck (hT.kept hkd) n).mono ?_
    rintro e w2 ⟨hk, v, rfl⟩
    have hF2 := hF.kept hk
    rw [hf]
    exact ⟨v, rfl, hF2.c.1, hF2.c.2, hF2.x (i := 1) rfl, hF2.x (i := 2) rfl, hkd.trans hk, hF2⟩
  obtain ⟨c0, c1⟩ := hF.c
  have c2 := hF.x (i := 1) (v := .string n) rfl
  have c3 := hF.x (i := 2) (v := .int .i64 loc) rfl
  have HN : Hid _ := hn
  clear hT hF hk0 hkd hb hn hf
  go_region_held2 (fun w' => w'.cell? ⟨w.heap.size, 0, none⟩ = some (.pointer p) ∧ w'.cell? ⟨w.heap.size, 1, none⟩ = some (.map (some gm)) ∧ w'.cell? ⟨eb, 1, none⟩ = some (.string n) ∧ w'.cell? ⟨eb, 2, none⟩ = some (.int .i64 loc)) (go_keep) (first | (go_at_call 103; refine Calls.mono HC.out ?_; rintro e w2 ⟨v, rfl, d0, d1, d2, d3, HR⟩; clear HC))
  all_goals
    obtain ⟨hk2, hF2⟩ := HR.out
    clear HR d0 d1 d2 d3
    have hkd : Kept w w2.drew := hk2.trans (Kept.drew w2)
    have hF3 := hF2.kept (Kept.drew w2)
    have d2 := hF3.x (i := 1) (v := .string n) rfl
    have d3 := hF3.x (i := 2) (v := .int .i64 loc) rfl
    have HC : Hid (Calls Tryz.prog 89 #[.string n] w2.drew fun e w3 => e = .returned (.string n) ∧ w3.cell? ⟨eb, 1, none⟩ = some (.string n) ∧ w3.cell? ⟨eb, 2, none⟩ = some (.int .i64 loc) ∧
        Hid (Calls Tryz.prog 54 #[.iface 84 (.pointer (some ⟨w3.heap.size, 0, none⟩))] (w3.alloc (.cells #[.int .i64 loc, .string n] 97)) fun e w4 => (∃ b, e = thrown (.iface 84 (.pointer (some ⟨b, 0, none⟩))) ∧ ChO w (some (loc, n)) (thrown (.iface 84 (.pointer (some ⟨b, 0, none⟩)))) w4) ∨ (e = .returned (.tuple #[]) ∧ w4.cell? ⟨eb, 1, none⟩ = some (.string n) ∧ w4.cell? ⟨eb, 2, none⟩ = some (.int .i64 loc) ∧ Hid False))) := by
      refine (sclone_any n w2.drew HN.out).mono ?_
      rintro e w3 ⟨rfl, hB⟩
      have hk3 := Kept.below hB
      have hF4 := hF3.kept hk3
      refine ⟨rfl, hF4.x (i := 1) rfl, hF4.x (i := 2) rfl, ?_⟩
      refine (prefuse_unb ⟨w3.heap.size, 0, none⟩ _).mono ?_
      rintro e w4 ⟨rfl, rfl⟩
      exact .inl ⟨_, rfl, (hkd.trans hk3).trans (Kept.alloc _ _), _, rfl, heap_alloc_new _ _⟩
    clear hk2 hF2 hkd hF3 c0 c1 c2 c3
    go_wp2_with fail
    go_region_held2 (fun w' => w'.cell? ⟨eb, 1, none⟩ = some (.string n) ∧ w'.cell? ⟨eb, 2, none⟩ = some (.int .i64 loc)) (go_keep) (first | (go_at_call 89; refine Calls.mono HC.out ?_; rintro e w3 ⟨rfl, e2, e3, HD⟩; clear HC) | (go_at_call 54; refine Calls.mono HD.out ?_; rintro e w4 (⟨a, rfl, hE⟩ | ⟨rfl, f2, f3, HR⟩); exact ⟨rfl, hE⟩; clear HD))
    all_goals
      exact HR.out.elim
end Go.Proofs.YtleenphlgbklmabGreatDoor
