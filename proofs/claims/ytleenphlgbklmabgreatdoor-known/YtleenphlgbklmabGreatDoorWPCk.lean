import Derived.Shelf.Lay
import Derived.Shelf.Strconv.Clone
import Derived.Ground.NamesProg
import Derived.Test.YtleenphlgbklmabGreatDoorWTree
import Derived.Test.YtleenphlgbklmabGreatDoorWTCk
import Derived.Test.YtleenphlgbklmabGreatDoorWPSc
import Derived.Test.YtleenphlgbklmabGreatDoorWPKq
set_option linter.unusedVariables false
set_option linter.unusedSimpArgs false
namespace Go.Proofs.YtleenphlgbklmabGreatDoor
open Go.RowKit

shelf_lay LaysM.n316 Nm 316 at Tryz as Tryz.laysM316
set_option maxRecDepth 20000 in
theorem sclone_any (s : ByteArray) (w : World) (hs : s.size ≤ 1000000) : Calls Tryz.prog 89 #[.string s] w fun e w' => e = .returned (.string s) ∧ Below w.heap.size w w' := by
  have HC : Hid (Calls Tryz.prog 130 #[.string s] w fun e w' => e = .returned (.string s) ∧ Below w.heap.size w w') := Any.stringslite_Clone Tryz.laysM316 s w (by omega)
  go_enter Tryz.func89, Tryz.ntmps89
  go_wp2_with fail
  refine Calls.mono HC.out ?_
  rintro e w1 ⟨rfl, hb⟩
  go_wp2
  go_ret
  exact ⟨rfl, hb⟩
end Go.Proofs.YtleenphlgbklmabGreatDoor

namespace Go.Proofs.YtleenphlgbklmabGreatDoor
open Go.RowKit

set_option maxRecDepth 20000 in
theorem prefuse_unb (b : Addr) (w : World) : Calls Tryz.prog 54 #[.iface 84 (.pointer (some b))] w fun e w' => e = thrown (.iface 84 (.pointer (some b))) ∧ w' = w := by
  go_enter Tryz.func54, Tryz.ntmps54
  go_wp2
  exact ⟨rfl, rfl, rfl⟩
/-- how checkNames ends. -/
def ChO (w : World) (r : Option (Nat × ByteArray)) (e : Ending) (w' : World) : Prop := Kept w w' ∧ match r with
  | none => e = .returned (.tuple #[])
  | some q => ∃ b, e = thrown (.iface 84 (.pointer (some ⟨b, 0, none⟩))) ∧ w'.heap[b]? = some (.cells #[.int .i64 q.1, .string q.2] 97 (0, 0))
theorem ChO.pre {w w1 w' : World} {r : Option (Nat × ByteArray)} {e : Ending} (k : Kept w w1) (h : ChO w1 r e w') : ChO w r e w' := ⟨k.trans h.1, h.2⟩
theorem ChO.split {w w' : World} {r : Option (Nat × ByteArray)} {e : Ending} (h : ChO w r e w') : (∃ q b, r = some q ∧ e = thrown (.iface 84 (.pointer (some ⟨b, 0, none⟩))) ∧ ChO w r (thrown (.iface 84 (.pointer (some ⟨b, 0, none⟩)))) w') ∨ (r = none ∧ e = .returned (.tuple #[]) ∧ Kept w w') := by
  cases r with
  | some q =>
    obtain ⟨h1, b, rfl, h2⟩ := h
    exact .inl ⟨q, b, rfl, rfl, h1, b, rfl, h2⟩
  | none =>
    obtain ⟨h1, rfl⟩ := h
    exact .inr ⟨rfl, rfl, h1⟩
structure CI (w : World) (ad : List Nat) (own : List Bd) (gv : Gv) (p : Option Addr) (gm : Nat) : Prop where
  ch : CH w (fun _ _ => True) own (.pointer p)
  gm : GM w gm ad gv
theorem CI.kept {w w' : World} {ad : List Nat} {own : List Bd} {gv : Gv} {p : Option Addr} {gm : Nat} (h : CI w ad own gv p gm) (k : Kept w w') : CI w' ad own gv p gm := ⟨h.ch.keep (fun _ _ _ hq => k.blk hq), h.gm.kt (Kt.of_kept (ad := ad) (S := fun _ => False) k) id⟩
theorem CI.with {w : World} {ad : List Nat} {own : List Bd} {gv : Gv} {p : Option Addr} {gm q : Nat} {n : ByteArray} {b : Bool} {tv : Value} (h : CI w ad own gv p gm) (hb : w.heap[q]? = some (.cells #[.string n, tv, .bool b, .pointer p] 287 (0, 0))) : CI w ad (⟨n, .int, b⟩ :: own) gv (some ⟨q, 0, none⟩) gm := ⟨⟨q, tv, _, rfl, hb, trivial, h.ch⟩, h.gm⟩
theorem find_ck {w : World} {ad : List Nat} {own : List Bd} {gv : Gv} {p : Option Addr} {gm : Nat} (h : CI w ad own gv p gm) (n : ByteArray) :
    Calls Tryz.prog 103 #[.agg #[.pointer p, .map (some gm)], .string n] w fun e w' => Kept w w' ∧ ∃ v, e = .returned (.tuple #[v, .bool (findF n gv own).isSome]) := by
  rw [findF_own]
  cases hg : findG n gv with
  | some g =>
    obtain ⟨v, hv, _⟩ := (look_gm h.gm n).1 g hg
    refine (find_own (x := v) (y := .bool true) h.ch (fun W hW => ?_)).mono ?_
    · obtain ⟨v', hv', hl⟩ := (look_gm (h.gm.kt (Kt.of_kept (ad := ad) (S := fun _ => False) hW) id) n).1 g hg
      rw [hv.det hv']
      exact hl
    · rintro e w' ⟨hk, h1, h2⟩
      refine ⟨hk, ?_⟩
      cases ho : findO n own with
      | some q => obtain ⟨v, rfl, _⟩ := h1 _ ho; exact ⟨v, rfl⟩
      | none => exact ⟨v, h2 ho⟩
  | none =>
    refine (find_own (x := .nilIface) (y := .bool false) h.ch (fun W hW => ?_)).mono ?_
    · exact (look_gm (h.gm.kt (Kt.of_kept (ad := ad) (S := fun _ => False) hW) id) n).2 hg
    · rintro e w' ⟨hk, h1, h2⟩
      refine ⟨hk, ?_⟩
      cases ho : findO n own with
      | some q => obtain ⟨v, rfl, _⟩ := h1 _ ho; exact ⟨v, rfl⟩
      | none => exact ⟨_, h2 ho⟩
set_option maxRecDepth 20000 in
set_option maxHeartbeats 1000000 in
theorem with_nil (w : World) (p : Option Addr) (gm : Nat) (n : ByteArray) : Calls Tryz.prog 104 #[.agg #[.pointer p, .map (some gm)], .string n, .nilIface] w fun e w' => ∃ q, e = .returned (.agg #[.pointer (some ⟨q, 0, none⟩), .map (some gm)]) ∧ w'.heap[q]? = some (.cells #[.string n, .nilIface, .bool false, .pointer p] 287 (0, 0)) ∧ Kept w w' := by
  go_enter Tryz.func104, Tryz.ntmps104
  go_wp2_with fail
  generalize hW : w.alloc (.cells #[.pointer p, .map (some gm)] 168) = W
  have hk1 : Kept w W := by rw [← hW]; exact Kept.alloc _ _
  have hs1 : W.heap.size = w.heap.size + 1 := by rw [← hW]; simp
  generalize hV : W.alloc (.cells #[.pointer (some ⟨w.heap.size + 1 + 1, 0, none⟩), .map (some gm)] 168) = V
  have hk2 : Kept W V := by rw [← hV]; exact Kept.alloc _ _
  have hb2 : V.heap[w.heap.size + 1]? = some (.cells #[.pointer (some ⟨w.heap.size + 1 + 1, 0, none⟩), .map (some gm)] 168 (0, 0)) := by rw [← hV, ← hs1]; exact heap_alloc_new _ _
  have hs2 : V.heap.size = w.heap.size + 1 + 1 := by rw [← hV, ← hs1]; simp
  have hk3 : Kept V (V.alloc (.cells #[.string n, .nilIface, .bool false, .pointer p] 287)) := Kept.alloc _ _
  have hb3 := heap_alloc_new V (.cells #[.string n, .nilIface, .bool false, .pointer p] 287)
  rw [hs2] at hb3
  have hb2 := hk3.blk hb2
  generalize V.alloc (.cells #[.string n, .nilIface, .bool false, .pointer p] 287) = Z at *
  have d0 : Z.cell? ⟨w.heap.size + 1, 0, none⟩ = some (.pointer (some ⟨w.heap.size + 1 + 1, 0, none⟩)) := by simp [World.cell?, hb2]
  have d1 : Z.cell? ⟨w.heap.size + 1, 1, none⟩ = some (.map (some gm)) := by simp [World.cell?, hb2]
  exact bodyPost_ret (v := .agg #[.pointer (some ⟨w.heap.size + 1 + 1, 0, none⟩), .map (some gm)]) (by simp [results, Tryz.results104, go_sem, d0, d1]) rfl ⟨_, rfl, hb3, (hk1.trans hk2).trans hk3⟩
structure FC (V : World) (b2 eb : Nat) (p : Option Addr) (gm : Nat) (cs : Array Value) (et : TypeId) : Prop where
  sc : V.heap[b2]? = some (.cells #[.pointer p, .map (some gm)] 168 (0, 0))
  ex : V.heap[eb]? = some (.cells cs et (0, 0))
section
variable {V V' : World} {b2 eb : Nat} {p : Option Addr} {gm : Nat} {cs : Array Value} {et : TypeId}
theorem FC.kept (h : FC V b2 eb p gm cs et) (k : Kept V V') : FC V' b2 eb p gm cs et := ⟨k.blk h.sc, k.blk h.ex⟩
theorem FC.c (h : FC V b2 eb p gm cs et) : V.cell? ⟨b2, 0, none⟩ = some (.pointer p) ∧ V.cell? ⟨b2, 1, none⟩ = some (.map (some gm)) := ⟨by simp [World.cell?, h.sc], by simp [World.cell?, h.sc]⟩
theorem FC.x (h : FC V b2 eb p gm cs et) {i : Nat} {v : Value} (hv : cs[i]? = some v) : V.cell? ⟨eb, i, none⟩ = some v := by simp [World.cell?, h.ex, hv]
end
theorem fc_start (w : World) (eb : Nat) (p : Option Addr) (gm : Nat) {cs : Array Value} {et : TypeId} (hb : w.heap[eb]? = some (.cells cs et (0, 0))) : FC (w.alloc (.cells #[.pointer p, .map (some gm)] 168)) w.heap.size eb p gm cs et ∧ Kept w (w.alloc (.cells #[.pointer p, .map (some gm)] 168)) :=
  ⟨⟨heap_alloc_new _ _, (Kept.alloc _ _).blk hb⟩, Kept.alloc _ _⟩
/-- the program's checkNames does what the mirror does. -/
def SCk (gv : Gv) (f : X → List Bd → Option (Option (Nat × ByteArray))) : Prop := ∀ (x : X) (own : List Bd) (r : Option (Nat × ByteArray)), f x own = some r → ∀ (w : World) (ad : List Nat) (v : Value) (p : Option Addr) (gm : Nat), PX w (fun _ => True) x v → CI w ad own gv p gm →
  Calls Tryz.prog 72 #[v, .agg #[.pointer p, .map (some gm)]] w (ChO w r)
set_option maxRecDepth 20000 in
set_option maxHeartbeats 4000000 in
theorem c_app {gv : Gv} {f : X → List Bd → Option (Option (Nat × ByteArray))} (hf : SCk gv f) {x y : X} {own : List Bd} {r : Option (Nat × ByteArray)} (h : sqF (f x own) (f y own) = some r) {w : World} {ad : List Nat} {p : Option Addr} {gm : Nat} (hT : CI w ad own gv p gm) {eb dpt : Nat} {vx vy : Value} (hb : w.heap[eb]? = some (.cells #[.int .i64 dpt, vx, vy] 254 (0, 0))) (hx : PX w (fun _ => True) x vx) (hy : PX w (fun _ => True) y vy) :
    Calls Tryz.prog 72 #[.iface 252 (.pointer (some ⟨eb, 0, none⟩)), .agg #[.pointer p, .map (some gm)]] w (ChO w r) := by
  have q0 := fun W => Tryz.xApNa (.pointer (some ⟨eb, 0, none⟩)) W
  have q1 := fun W => Tryz.xApFu (.pointer (some ⟨eb, 0, none⟩)) W
  have q2 := fun W => Tryz.xApIf (.pointer (some ⟨eb, 0, none⟩)) W
  have q3 := fun W => Tryz.xApLe (.pointer (some ⟨eb, 0, none⟩)) W
  have q4 := fun W => Tryz.xApRe (.pointer (some ⟨eb, 0, none⟩)) W
  have q5 := fun W => Tryz.xApAp (.pointer (some ⟨eb, 0, none⟩)) W
  simp only [sqF, Option.bind_eq_some_iff] at h
  obtain ⟨r1, h1, h⟩ := h
  obtain ⟨hF, hk0⟩ := fc_start w eb p gm hb
  obtain ⟨Tx, ux, rfl⟩ := hx.iface
  obtain ⟨Ty, uy, rfl⟩ := hy.iface
  go_enter Tryz.func72, Tryz.ntmps72
  go_wp2_with fail
  clear q0 q1 q2 q3 q4 q5
  generalize w.alloc (.cells #[.pointer p, .map (some gm)] 168) = W at *
  have hkd : Kept w W.drew := hk0.trans (Kept.drew W)
  have hF := hF.kept (Kept.drew W)
  have HC : Hid (Calls Tryz.prog 72 #[.iface Tx ux, .agg #[.pointer p, .map (some gm)]] W.drew fun e w2 => (∃ b, e = thrown (.iface 84 (.pointer (some ⟨b, 0, none⟩))) ∧ ChO w r (thrown (.iface 84 (.pointer (some ⟨b, 0, none⟩)))) w2) ∨ (e = .returned (.tuple #[]) ∧ w2.cell? ⟨w.heap.size, 0, none⟩ = some (.pointer p) ∧ w2.cell? ⟨w.heap.size, 1, none⟩ = some (.map (some gm)) ∧ w2.cell? ⟨eb, 1, none⟩ = some (.iface Tx ux) ∧ Hid (r1 = none ∧ Kept w w2 ∧ FC w2 w.heap.size eb p gm #[.int .i64 dpt, .iface Tx ux, .iface Ty uy] 254))) := by
    refine (hf x own r1 h1 W.drew ad _ p gm (hx.keepT (XKeep.kept hkd)) (hT.kept hkd)).mono ?_
    intro e w2 hE
    rcases hE.split with ⟨q, b, rfl, rfl, hE⟩ | ⟨rfl, rfl, hk⟩
    · simp only [Option.some.injEq] at h
      subst h
      exact .inl ⟨b, rfl, hE.pre hkd⟩
    · have hF2 := hF.kept hk
      exact .inr ⟨rfl, hF2.c.1, hF2.c.2, hF2.x (i := 1) rfl, rfl, hkd.trans hk, hF2⟩
  obtain ⟨c0, c1⟩ := hF.c
  have c2 := hF.x (i := 1) (v := .iface Tx ux) rfl
  have HT : Hid _ := hT
  have HFF : Hid _ := hf
  have HH : Hid _ := h
  have HY : Hid _ := hy
  clear hT hF hk0 hkd hx hy h1 hf h hb
  go_region_held2 (fun w' => w'.cell? ⟨w.heap.size, 0, none⟩ = some (.pointer p) ∧ w'.cell? ⟨w.heap.size, 1, none⟩ = some (.map (some gm)) ∧ w'.cell? ⟨eb, 1, none⟩ = some (.iface Tx ux)) (go_keep) (first | (go_at_call 72; refine Calls.mono HC.out ?_; rintro e w2 (⟨a, rfl, hE⟩ | ⟨rfl, d0, d1, d2, HR⟩); exact ⟨rfl, hE⟩; clear HC))
  all_goals
    obtain ⟨rfl, hk2, hF2⟩ := HR.out
    have hkd : Kept w w2.drew := hk2.trans (Kept.drew w2)
    have hF3 := hF2.kept (Kept.drew w2)
    have HC : Hid (Calls Tryz.prog 72 #[.iface Ty uy, .agg #[.pointer p, .map (some gm)]] w2.drew fun e w3 => (∃ b, e = thrown (.iface 84 (.pointer (some ⟨b, 0, none⟩))) ∧ ChO w r (thrown (.iface 84 (.pointer (some ⟨b, 0, none⟩)))) w3) ∨ (e = .returned (.tuple #[]) ∧ w3.cell? ⟨w.heap.size, 0, none⟩ = some (.pointer p) ∧ w3.cell? ⟨w.heap.size, 1, none⟩ = some (.map (some gm)) ∧ w3.cell? ⟨eb, 2, none⟩ = some (.iface Ty uy) ∧ Hid (ChO w r (.returned (.tuple #[])) w3))) := by
      refine (HFF.out y own r HH.out w2.drew ad _ p gm (PX.keepT (XKeep.kept hkd) HY.out) (HT.out.kept hkd)).mono ?_
      intro e w3 hE
      rcases hE.split with ⟨q, b, rfl, rfl, hE⟩ | ⟨rfl, rfl, hk⟩
      · exact .inl ⟨b, rfl, hE.pre hkd⟩
      · have hF4 := hF3.kept hk
        exact .inr ⟨rfl, hF4.c.1, hF4.c.2, hF4.x (i := 2) rfl, hkd.trans hk, rfl⟩
    obtain ⟨c0, c1⟩ := hF3.c
    have c2 := hF3.x (i := 2) (v := .iface Ty uy) rfl
    clear hk2 hF2 hkd hF3 HR HFF HH HT HY d0 d1 d2
    go_wp2_with fail
    go_region_held2 (fun w' => w'.cell? ⟨w.heap.size, 0, none⟩ = some (.pointer p) ∧ w'.cell? ⟨w.heap.size, 1, none⟩ = some (.map (some gm)) ∧ w'.cell? ⟨eb, 2, none⟩ = some (.iface Ty uy)) (go_keep) (first | (go_at_call 72; refine Calls.mono HC.out ?_; rintro e w3 (⟨a, rfl, hE⟩ | ⟨rfl, d0, d1, d2, HR⟩); exact ⟨rfl, hE⟩; clear HC))
    all_goals
      go_wp2
      exact bodyPost_end (results_none Tryz.results72 _ _ _) rfl HR.out
set_option maxRecDepth 20000 in
set_option maxHeartbeats 4000000 in
theorem c_pair {gv : Gv} {f : X → List Bd → Option (Option (Nat × ByteArray))} (hf : SCk gv f) {x y : X} {own : List Bd} {r : Option (Nat × ByteArray)} (h : sqF (f x own) (f y own) = some r) {w : World} {ad : List Nat} {p : Option Addr} {gm : Nat} (hT : CI w ad own gv p gm) {eb dpt : Nat} {vx vy : Value} (hb : w.heap[eb]? = some (.cells #[.int .i64 dpt, vx, vy] 257 (0, 0))) (hx : PX w (fun _ => True) x vx) (hy : PX w (fun _ => True) y vy) :
    Calls Tryz.prog 72 #[.iface 255 (.pointer (some ⟨eb, 0, none⟩)), .agg #[.pointer p, .map (some gm)]] w (ChO w r) := by
  have q0 := fun W => Tryz.xPaNa (.pointer (some ⟨eb, 0, none⟩)) W
  have q1 := fun W => Tryz.xPaFu (.pointer (some ⟨eb, 0, none⟩)) W
  have q2 := fun W => Tryz.xPaIf (.pointer (some ⟨eb, 0, none⟩)) W
  have q3 := fun W => Tryz.xPaLe (.pointer (some ⟨eb, 0, none⟩)) W
  have q4 := fun W => Tryz.xPaRe (.pointer (some ⟨eb, 0, none⟩)) W
  have q5 := fun W => Tryz.xPaAp (.pointer (some ⟨eb, 0, none⟩)) W
  have q6 := fun W => Tryz.xPaPa (.pointer (some ⟨eb, 0, none⟩)) W
  simp only [sqF, Option.bind_eq_some_iff] at h
  obtain ⟨r1, h1, h⟩ := h
  obtain ⟨hF, hk0⟩ := fc_start w eb p gm hb
  obtain ⟨Tx, ux, rfl⟩ := hx.iface
  obtain ⟨Ty, uy, rfl⟩ := hy.iface
  go_enter Tryz.func72, Tryz.ntmps72
  go_wp2_with fail
  clear q0 q1 q2 q3 q4 q5 q6
  generalize w.alloc (.cells #[.pointer p, .map (some gm)] 168) = W at *
  have hkd : Kept w W.drew := hk0.trans (Kept.drew W)
  have hF := hF.kept (Kept.drew W)
  have HC : Hid (Calls Tryz.prog 72 #[.iface Tx ux, .agg #[.pointer p, .map (some gm)]] W.drew fun e w2 => (∃ b, e = thrown (.iface 84 (.pointer (some ⟨b, 0, none⟩))) ∧ ChO w r (thrown (.iface 84 (.pointer (some ⟨b, 0, none⟩)))) w2) ∨ (e = .returned (.tuple #[]) ∧ w2.cell? ⟨w.heap.size, 0, none⟩ = some (.pointer p) ∧ w2.cell? ⟨w.heap.size, 1, none⟩ = some (.map (some gm)) ∧ w2.cell? ⟨eb, 1, none⟩ = some (.iface Tx ux) ∧ Hid (r1 = none ∧ Kept w w2 ∧ FC w2 w.heap.size eb p gm #[.int .i64 dpt, .iface Tx ux, .iface Ty uy] 257))) := by
    refine (hf x own r1 h1 W.drew ad _ p gm (hx.keepT (XKeep.kept hkd)) (hT.kept hkd)).mono ?_
    intro e w2 hE
    rcases hE.split with ⟨q, b, rfl, rfl, hE⟩ | ⟨rfl, rfl, hk⟩
    · simp only [Option.some.injEq] at h
      subst h
      exact .inl ⟨b, rfl, hE.pre hkd⟩
    · have hF2 := hF.kept hk
      exact .inr ⟨rfl, hF2.c.1, hF2.c.2, hF2.x (i := 1) rfl, rfl, hkd.trans hk, hF2⟩
  obtain ⟨c0, c1⟩ := hF.c
  have c2 := hF.x (i := 1) (v := .iface Tx ux) rfl
  have HT : Hid _ := hT
  have HFF : Hid _ := hf
  have HH : Hid _ := h
  have HY : Hid _ := hy
  clear hT hF hk0 hkd hx hy h1 hf h hb
  go_region_held2 (fun w' => w'.cell? ⟨w.heap.size, 0, none⟩ = some (.pointer p) ∧ w'.cell? ⟨w.heap.size, 1, none⟩ = some (.map (some gm)) ∧ w'.cell? ⟨eb, 1, none⟩ = some (.iface Tx ux)) (go_keep) (first | (go_at_call 72; refine Calls.mono HC.out ?_; rintro e w2 (⟨a, rfl, hE⟩ | ⟨rfl, d0, d1, d2, HR⟩); exact ⟨rfl, hE⟩; clear HC))
  all_goals
    obtain ⟨rfl, hk2, hF2⟩ := HR.out
    have hkd : Kept w w2.drew := hk2.trans (Kept.drew w2)
    have hF3 := hF2.kept (Kept.drew w2)
    have HC : Hid (Calls Tryz.prog 72 #[.iface Ty uy, .agg #[.pointer p, .map (some gm)]] w2.drew fun e w3 => (∃ b, e = thrown (.iface 84 (.pointer (some ⟨b, 0, none⟩))) ∧ ChO w r (thrown (.iface 84 (.pointer (some ⟨b, 0, none⟩)))) w3) ∨ (e = .returned (.tuple #[]) ∧ w3.cell? ⟨w.heap.size, 0, none⟩ = some (.pointer p) ∧ w3.cell? ⟨w.heap.size, 1, none⟩ = some (.map (some gm)) ∧ w3.cell? ⟨eb, 2, none⟩ = some (.iface Ty uy) ∧ Hid (ChO w r (.returned (.tuple #[])) w3))) := by
      refine (HFF.out y own r HH.out w2.drew ad _ p gm (PX.keepT (XKeep.kept hkd) HY.out) (HT.out.kept hkd)).mono ?_
      intro e w3 hE
      rcases hE.split with ⟨q, b, rfl, rfl, hE⟩ | ⟨rfl, rfl, hk⟩
      · exact .inl ⟨b, rfl, hE.pre hkd⟩
      · have hF4 := hF3.kept hk
        exact .inr ⟨rfl, hF4.c.1, hF4.c.2, hF4.x (i := 2) rfl, hkd.trans hk, rfl⟩
    obtain ⟨c0, c1⟩ := hF3.c
    have c2 := hF3.x (i := 2) (v := .iface Ty uy) rfl
    clear hk2 hF2 hkd hF3 HR HFF HH HT HY d0 d1 d2
    go_wp2_with fail
    go_region_held2 (fun w' => w'.cell? ⟨w.heap.size, 0, none⟩ = some (.pointer p) ∧ w'.cell? ⟨w.heap.size, 1, none⟩ = some (.map (some gm)) ∧ w'.cell? ⟨eb, 2, none⟩ = some (.iface Ty uy)) (go_keep) (first | (go_at_call 72; refine Calls.mono HC.out ?_; rintro e w3 (⟨a, rfl, hE⟩ | ⟨rfl, d0, d1, d2, HR⟩); exact ⟨rfl, hE⟩; clear HC))
    all_goals
      go_wp2
      exact bodyPost_end (results_none Tryz.results72 _ _ _) rfl HR.out
end Go.Proofs.YtleenphlgbklmabGreatDoor
