import Derived.Test.YtleenphlgbklmabGreatDoorZPTq
import Derived.Shelf.Lay
import Derived.Shelf.Strconv.Clone
import Derived.Ground.NamesProg
import Derived.Test.YtleenphlgbklmabGreatDoorZTree
import Derived.Test.YtleenphlgbklmabGreatDoorZPTv
import Derived.Test.YtleenphlgbklmabGreatDoorZPVar
import Derived.Deep.OwnRows
set_option linter.unusedVariables false
set_option linter.unusedSimpArgs false
namespace Go.Proofs.YtleenphlgbklmabGreatDoor
open Go.RowKit

def sqF (a b : Option (Option (Nat × ByteArray))) : Option (Option (Nat × ByteArray)) := a.bind fun r => match r with
  | some e => some (some e)
  | none => b
def grpC (f : X → List Bd → Option (Option (Nat × ByteArray))) (names : List ByteArray) (kids : List X) (own : List Bd) : Option (Option (Nat × ByteArray)) := if names.length ≤ 1000000 then kids.foldl (fun r x => sqF r (f x (grpF names (List.replicate names.length .int) own))) (some none) else none
/-- the first name that does not stand, and where; let rec only where rk. -/
def chkF (rk : Bool) (gv : Gv) : Nat → X → List Bd → Option (Option (Nat × ByteArray))
  | 0, _, _ => none
  | n + 1, .mk op names kids loc, own =>
    if bq op { data := #[110, 97, 109, 101] } then match names with
      | [m] => match findF m gv own with | some _ => some none | none => if m.size ≤ 1000 then some (some (loc, m)) else none
      | _ => none
    else if bq op { data := #[110, 117, 109] } then some none
    else if bq op { data := #[102, 117, 110] } then match names, kids with
      | [m], [b] => chkF rk gv n b (⟨m, .int, false⟩ :: own)
      | _, _ => none
    else if bq op { data := #[105, 102] } then match kids with
      | [x, y, z] => sqF (chkF rk gv n x own) (sqF (chkF rk gv n y own) (chkF rk gv n z own))
      | _ => none
    else if bq op { data := #[108, 101, 116] } then match names, kids with
      | [m], [x, y] => sqF (chkF rk gv n x own) (chkF rk gv n y (⟨m, .int, false⟩ :: own))
      | _, _ => none
    else if bq op { data := #[97, 112, 112] } then match kids with
      | [x, y] => sqF (chkF rk gv n x own) (chkF rk gv n y own)
      | _ => none
    else if bq op { data := #[112, 97, 105, 114] } then match kids with
      | [x, y] => sqF (chkF rk gv n x own) (chkF rk gv n y own)
      | _ => none
    else if rk && bq op { data := #[114, 101, 99] } then grpC (fun x own => chkF rk gv n x own) names kids own
    else none
end Go.Proofs.YtleenphlgbklmabGreatDoor

namespace Go.Proofs.YtleenphlgbklmabGreatDoor
open Go.RowKit

shelf_lay LaysM.n316 Nm 316 at Tryz as Tryz.laysM316
set_option maxRecDepth 20000 in
theorem sclone_any (s : ByteArray) (w : World) (hs : s.size ≤ 1000000) : Calls Tryz.prog 89 #[.string s] w fun e w' => e = .returned (.string s) ∧ Below w.heap.size w w' := by
  have HC : Hid (Calls Tryz.prog 130 #[.string s] w fun e w' => e = .returned (.string s) ∧ Below w.heap.size w w') := Any.stringslite_Clone Tryz.laysM316 s w (by omega)
  go_enter Tryz.func89, Tryz.ntmps89
  go_wp2_with fail
  refine Calls.mono HC.out ?_
  rintro e w1 ⟨rfl, hb⟩
  go_wp2
  go_ret
  exact ⟨rfl, hb⟩
end Go.Proofs.YtleenphlgbklmabGreatDoor

namespace Go.Proofs.YtleenphlgbklmabGreatDoor
open Go.RowKit

set_option maxRecDepth 20000 in
theorem prefuse_unb (b : Addr) (w : World) : Calls Tryz.prog 54 #[.iface 84 (.pointer (some b))] w fun e w' => e = thrown (.iface 84 (.pointer (some b))) ∧ w' = w := by
  go_enter Tryz.func54, Tryz.ntmps54
  go_wp2
  exact ⟨rfl, rfl, rfl⟩
/-- how checkNames ends. -/
def ChO (w : World) (r : Option (Nat × ByteArray)) (e : Ending) (w' : World) : Prop := Kept w w' ∧ match r with
  | none => e = .returned (.tuple #[])
  | some q => ∃ b, e = thrown (.iface 84 (.pointer (some ⟨b, 0, none⟩))) ∧ w'.heap[b]? = some (.cells #[.int .i64 q.1, .string q.2] 97 (0, 0))
theorem ChO.pre {w w1 w' : World} {r : Option (Nat × ByteArray)} {e : Ending} (k : Kept w w1) (h : ChO w1 r e w') : ChO w r e w' := ⟨k.trans h.1, h.2⟩
theorem ChO.split {w w' : World} {r : Option (Nat × ByteArray)} {e : Ending} (h : ChO w r e w') : (∃ q b, r = some q ∧ e = thrown (.iface 84 (.pointer (some ⟨b, 0, none⟩))) ∧ ChO w r (thrown (.iface 84 (.pointer (some ⟨b, 0, none⟩)))) w') ∨ (r = none ∧ e = .returned (.tuple #[]) ∧ Kept w w') := by
  cases r with
  | some q =>
    obtain ⟨h1, b, rfl, h2⟩ := h
    exact .inl ⟨q, b, rfl, rfl, h1, b, rfl, h2⟩
  | none =>
    obtain ⟨h1, rfl⟩ := h
    exact .inr ⟨rfl, rfl, h1⟩
structure CI (w : World) (ad : List Nat) (own : List Bd) (gv : Gv) (p : Option Addr) (gm : Nat) : Prop where
  ch : CH w (fun _ _ => True) own (.pointer p)
  gm : GM w gm ad gv
theorem CI.kept {w w' : World} {ad : List Nat} {own : List Bd} {gv : Gv} {p : Option Addr} {gm : Nat} (h : CI w ad own gv p gm) (k : Kept w w') : CI w' ad own gv p gm := ⟨h.ch.keep (fun _ _ _ hq => k.blk hq), h.gm.kt (Kt.of_kept (ad := ad) (S := fun _ => False) k) id⟩
theorem CI.with {w : World} {ad : List Nat} {own : List Bd} {gv : Gv} {p : Option Addr} {gm q : Nat} {n : ByteArray} {b : Bool} {tv : Value} (h : CI w ad own gv p gm) (hb : w.heap[q]? = some (.cells #[.string n, tv, .bool b, .pointer p] 287 (0, 0))) : CI w ad (⟨n, .int, b⟩ :: own) gv (some ⟨q, 0, none⟩) gm := ⟨⟨q, tv, _, rfl, hb, trivial, h.ch⟩, h.gm⟩
theorem find_ck {w : World} {ad : List Nat} {own : List Bd} {gv : Gv} {p : Option Addr} {gm : Nat} (h : CI w ad own gv p gm) (n : ByteArray) :
    Calls Tryz.prog 103 #[.agg #[.pointer p, .map (some gm)], .string n] w fun e w' => Kept w w' ∧ ∃ v, e = .returned (.tuple #[v, .bool (findF n gv own).isSome]) := by
  rw [findF_own]
  cases hg : findG n gv with
  | some g =>
    obtain ⟨v, hv, _⟩ := (look_gm h.gm n).1 g hg
    refine (find_own (x := v) (y := .bool true) h.ch (fun W hW => ?_)).mono ?_
    · obtain ⟨v', hv', hl⟩ := (look_gm (h.gm.kt (Kt.of_kept (ad := ad) (S := fun _ => False) hW) id) n).1 g hg
      rw [hv.det hv']
      exact hl
    · rintro e w' ⟨hk, h1, h2⟩
      refine ⟨hk, ?_⟩
      cases ho : findO n own with
      | some q => obtain ⟨v, rfl, _⟩ := h1 _ ho; exact ⟨v, rfl⟩
      | none => exact ⟨v, h2 ho⟩
  | none =>
    refine (find_own (x := .nilIface) (y := .bool false) h.ch (fun W hW => ?_)).mono ?_
    · exact (look_gm (h.gm.kt (Kt.of_kept (ad := ad) (S := fun _ => False) hW) id) n).2 hg
    · rintro e w' ⟨hk, h1, h2⟩
      refine ⟨hk, ?_⟩
      cases ho : findO n own with
      | some q => obtain ⟨v, rfl, _⟩ := h1 _ ho; exact ⟨v, rfl⟩
      | none => exact ⟨_, h2 ho⟩
set_option maxRecDepth 20000 in
set_option maxHeartbeats 1000000 in
theorem with_nil (w : World) (p : Option Addr) (gm : Nat) (n : ByteArray) : Calls Tryz.prog 104 #[.agg #[.pointer p, .map (some gm)], .string n, .nilIface] w fun e w' => ∃ q, e = .returned (.agg #[.pointer (some ⟨q, 0, none⟩), .map (some gm)]) ∧ w'.heap[q]? = some (.cells #[.string n, .nilIface, .bool false, .pointer p] 287 (0, 0)) ∧ Kept w w' := by
  go_enter Tryz.func104, Tryz.ntmps104
  go_wp2_with fail
  generalize hW : w.alloc (.cells #[.pointer p, .map (some gm)] 168) = W
  have hk1 : Kept w W := by rw [← hW]; exact Kept.alloc _ _
  have hs1 : W.heap.size = w.heap.size + 1 := by rw [← hW]; simp
  generalize hV : W.alloc (.cells #[.pointer (some ⟨w.heap.size + 1 + 1, 0, none⟩), .map (some gm)] 168) = V
  have hk2 : Kept W V := by rw [← hV]; exact Kept.alloc _ _
  have hb2 : V.heap[w.heap.size + 1]? = some (.cells #[.pointer (some ⟨w.heap.size + 1 + 1, 0, none⟩), .map (some gm)] 168 (0, 0)) := by rw [← hV, ← hs1]; exact heap_alloc_new _ _
  have hs2 : V.heap.size = w.heap.size + 1 + 1 := by rw [← hV, ← hs1]; simp
  have hk3 : Kept V (V.alloc (.cells #[.string n, .nilIface, .bool false, .pointer p] 287)) := Kept.alloc _ _
  have hb3 := heap_alloc_new V (.cells #[.string n, .nilIface, .bool false, .pointer p] 287)
  rw [hs2] at hb3
  have hb2 := hk3.blk hb2
  generalize V.alloc (.cells #[.string n, .nilIface, .bool false, .pointer p] 287) = Z at *
  have d0 : Z.cell? ⟨w.heap.size + 1, 0, none⟩ = some (.pointer (some ⟨w.heap.size + 1 + 1, 0, none⟩)) := by simp [World.cell?, hb2]
  have d1 : Z.cell? ⟨w.heap.size + 1, 1, none⟩ = some (.map (some gm)) := by simp [World.cell?, hb2]
  exact bodyPost_ret (v := .agg #[.pointer (some ⟨w.heap.size + 1 + 1, 0, none⟩), .map (some gm)]) (by simp [results, Tryz.results104, go_sem, d0, d1]) rfl ⟨_, rfl, hb3, (hk1.trans hk2).trans hk3⟩
structure FC (V : World) (b2 eb : Nat) (p : Option Addr) (gm : Nat) (cs : Array Value) (et : TypeId) : Prop where
  sc : V.heap[b2]? = some (.cells #[.pointer p, .map (some gm)] 168 (0, 0))
  ex : V.heap[eb]? = some (.cells cs et (0, 0))
section
variable {V V' : World} {b2 eb : Nat} {p : Option Addr} {gm : Nat} {cs : Array Value} {et : TypeId}
theorem FC.kept (h : FC V b2 eb p gm cs et) (k : Kept V V') : FC V' b2 eb p gm cs et := ⟨k.blk h.sc, k.blk h.ex⟩
theorem FC.c (h : FC V b2 eb p gm cs et) : V.cell? ⟨b2, 0, none⟩ = some (.pointer p) ∧ V.cell? ⟨b2, 1, none⟩ = some (.map (some gm)) := ⟨by simp [World.cell?, h.sc], by simp [World.cell?, h.sc]⟩
theorem FC.x (h : FC V b2 eb p gm cs et) {i : Nat} {v : Value} (hv : cs[i]? = some v) : V.cell? ⟨eb, i, none⟩ = some v := by simp [World.cell?, h.ex, hv]
end
theorem fc_start (w : World) (eb : Nat) (p : Option Addr) (gm : Nat) {cs : Array Value} {et : TypeId} (hb : w.heap[eb]? = some (.cells cs et (0, 0))) : FC (w.alloc (.cells #[.pointer p, .map (some gm)] 168)) w.heap.size eb p gm cs et ∧ Kept w (w.alloc (.cells #[.pointer p, .map (some gm)] 168)) :=
  ⟨⟨heap_alloc_new _ _, (Kept.alloc _ _).blk hb⟩, Kept.alloc _ _⟩
/-- the program's checkNames does what the mirror does. -/
def SCk (gv : Gv) (f : X → List Bd → Option (Option (Nat × ByteArray))) : Prop := ∀ (x : X) (own : List Bd) (r : Option (Nat × ByteArray)), f x own = some r → ∀ (w : World) (ad : List Nat) (v : Value) (p : Option Addr) (gm : Nat), PX w (fun _ => True) x v → CI w ad own gv p gm →
  Calls Tryz.prog 72 #[v, .agg #[.pointer p, .map (some gm)]] w (ChO w r)
set_option maxRecDepth 20000 in
set_option maxHeartbeats 4000000 in
theorem c_app {gv : Gv} {f : X → List Bd → Option (Option (Nat × ByteArray))} (hf : SCk gv f) {x y : X} {own : List Bd} {r : Option (Nat × ByteArray)} (h : sqF (f x own) (f y own) = some r) {w : World} {ad : List Nat} {p : Option Addr} {gm : Nat} (hT : CI w ad own gv p gm) {eb dpt : Nat} {vx vy : Value} (hb : w.heap[eb]? = some (.cells #[.int .i64 dpt, vx, vy] 254 (0, 0))) (hx : PX w (fun _ => True) x vx) (hy : PX w (fun _ => True) y vy) :
    Calls Tryz.prog 72 #[.iface 252 (.pointer (some ⟨eb, 0, none⟩)), .agg #[.pointer p, .map (some gm)]] w (ChO w r) := by
  have q0 := fun W => Tryz.xApNa (.pointer (some ⟨eb, 0, none⟩)) W
  have q1 := fun W => Tryz.xApFu (.pointer (some ⟨eb, 0, none⟩)) W
  have q2 := fun W => Tryz.xApIf (.pointer (some ⟨eb, 0, none⟩)) W
  have q3 := fun W => Tryz.xApLe (.pointer (some ⟨eb, 0, none⟩)) W
  have q4 := fun W => Tryz.xApRe (.pointer (some ⟨eb, 0, none⟩)) W
  have q5 := fun W => Tryz.xApAp (.pointer (some ⟨eb, 0, none⟩)) W
  simp only [sqF, Option.bind_eq_some_iff] at h
  obtain ⟨r1, h1, h⟩ := h
  obtain ⟨hF, hk0⟩ := fc_start w eb p gm hb
  obtain ⟨Tx, ux, rfl⟩ := hx.iface
  obtain ⟨Ty, uy, rfl⟩ := hy.iface
  go_enter Tryz.func72, Tryz.ntmps72
  go_wp2_with fail
  clear q0 q1 q2 q3 q4 q5
  generalize w.alloc (.cells #[.pointer p, .map (some gm)] 168) = W at *
  have hkd : Kept w W.drew := hk0.trans (Kept.drew W)
  have hF := hF.kept (Kept.drew W)
  have HC : Hid (Calls Tryz.prog 72 #[.iface Tx ux, .agg #[.pointer p, .map (some gm)]] W.drew fun e w2 => (∃ b, e = thrown (.iface 84 (.pointer (some ⟨b, 0, none⟩))) ∧ ChO w r (thrown (.iface 84 (.pointer (some ⟨b, 0, none⟩)))) w2) ∨ (e = .returned (.tuple #[]) ∧ w2.cell? ⟨w.heap.size, 0, none⟩ = some (.pointer p) ∧ w2.cell? ⟨w.heap.size, 1, none⟩ = some (.map (some gm)) ∧ w2.cell? ⟨eb, 1, none⟩ = some (.iface Tx ux) ∧ Hid (r1 = none ∧ Kept w w2 ∧ FC w2 w.heap.size eb p gm #[.int .i64 dpt, .iface Tx ux, .iface Ty uy] 254))) := by
    refine (hf x own r1 h1 W.drew ad _ p gm (hx.keepT (XKeep.kept hkd)) (hT.kept hkd)).mono ?_
    intro e w2 hE
    rcases hE.split with ⟨q, b, rfl, rfl, hE⟩ | ⟨rfl, rfl, hk⟩
    · simp only [Option.some.injEq] at h
      subst h
      exact .inl ⟨b, rfl, hE.pre hkd⟩
    · have hF2 := hF.kept hk
      exact .inr ⟨rfl, hF2.c.1, hF2.c.2, hF2.x (i := 1) rfl, rfl, hkd.trans hk, hF2⟩
  obtain ⟨c0, c1⟩ := hF.c
  have c2 := hF.x (i := 1) (v := .iface Tx ux) rfl
  have HT : Hid _ := hT
  have HFF : Hid _ := hf
  have HH : Hid _ := h
  have HY : Hid _ := hy
  clear hT hF hk0 hkd hx hy h1 hf h hb
  go_region_held2 (fun w' => w'.cell? ⟨w.heap.size, 0, none⟩ = some (.pointer p) ∧ w'.cell? ⟨w.heap.size, 1, none⟩ = some (.map (some gm)) ∧ w'.cell? ⟨eb, 1, none⟩ = some (.iface Tx ux)) (go_keep) (first | (go_at_call 72; refine Calls.mono HC.out ?_; rintro e w2 (⟨a, rfl, hE⟩ | ⟨rfl, d0, d1, d2, HR⟩); exact ⟨rfl, hE⟩; clear HC))
  all_goals
    obtain ⟨rfl, hk2, hF2⟩ := HR.out
    have hkd : Kept w w2.drew := hk2.trans (Kept.drew w2)
    have hF3 := hF2.kept (Kept.drew w2)
    have HC : Hid (Calls Tryz.prog 72 #[.iface Ty uy, .agg #[.pointer p, .map (some gm)]] w2.drew fun e w3 => (∃ b, e = thrown (.iface 84 (.pointer (some ⟨b, 0, none⟩))) ∧ ChO w r (thrown (.iface 84 (.pointer (some ⟨b, 0, none⟩)))) w3) ∨ (e = .returned (.tuple #[]) ∧ w3.cell? ⟨w.heap.size, 0, none⟩ = some (.pointer p) ∧ w3.cell? ⟨w.heap.size, 1, none⟩ = some (.map (some gm)) ∧ w3.cell? ⟨eb, 2, none⟩ = some (.iface Ty uy) ∧ Hid (ChO w r (.returned (.tuple #[])) w3))) := by
      refine (HFF.out y own r HH.out w2.drew ad _ p gm (PX.keepT (XKeep.kept hkd) HY.out) (HT.out.kept hkd)).mono ?_
      intro e w3 hE
      rcases hE.split with ⟨q, b, rfl, rfl, hE⟩ | ⟨rfl, rfl, hk⟩
      · exact .inl ⟨b, rfl, hE.pre hkd⟩
      · have hF4 := hF3.kept hk
        exact .inr ⟨rfl, hF4.c.1, hF4.c.2, hF4.x (i := 2) rfl, hkd.trans hk, rfl⟩
    obtain ⟨c0, c1⟩ := hF3.c
    have c2 := hF3.x (i := 2) (v := .iface Ty uy) rfl
    clear hk2 hF2 hkd hF3 HR HFF HH HT HY d0 d1 d2
    go_wp2_with fail
    go_region_held2 (fun w' => w'.cell? ⟨w.heap.size, 0, none⟩ = some (.pointer p) ∧ w'.cell? ⟨w.heap.size, 1, none⟩ = some (.map (some gm)) ∧ w'.cell? ⟨eb, 2, none⟩ = some (.iface Ty uy)) (go_keep) (first | (go_at_call 72; refine Calls.mono HC.out ?_; rintro e w3 (⟨a, rfl, hE⟩ | ⟨rfl, d0, d1, d2, HR⟩); exact ⟨rfl, hE⟩; clear HC))
    all_goals
      go_wp2
      exact bodyPost_end (results_none Tryz.results72 _ _ _) rfl HR.out
set_option maxRecDepth 20000 in
set_option maxHeartbeats 4000000 in
theorem c_pair {gv : Gv} {f : X → List Bd → Option (Option (Nat × ByteArray))} (hf : SCk gv f) {x y : X} {own : List Bd} {r : Option (Nat × ByteArray)} (h : sqF (f x own) (f y own) = some r) {w : World} {ad : List Nat} {p : Option Addr} {gm : Nat} (hT : CI w ad own gv p gm) {eb dpt : Nat} {vx vy : Value} (hb : w.heap[eb]? = some (.cells #[.int .i64 dpt, vx, vy] 257 (0, 0))) (hx : PX w (fun _ => True) x vx) (hy : PX w (fun _ => True) y vy) :
    Calls Tryz.prog 72 #[.iface 255 (.pointer (some ⟨eb, 0, none⟩)), .agg #[.pointer p, .map (some gm)]] w (ChO w r) := by
  have q0 := fun W => Tryz.xPaNa (.pointer (some ⟨eb, 0, none⟩)) W
  have q1 := fun W => Tryz.xPaFu (.pointer (some ⟨eb, 0, none⟩)) W
  have q2 := fun W => Tryz.xPaIf (.pointer (some ⟨eb, 0, none⟩)) W
  have q3 := fun W => Tryz.xPaLe (.pointer (some ⟨eb, 0, none⟩)) W
  have q4 := fun W => Tryz.xPaRe (.pointer (some ⟨eb, 0, none⟩)) W
  have q5 := fun W => Tryz.xPaAp (.pointer (some ⟨eb, 0, none⟩)) W
  have q6 := fun W => Tryz.xPaPa (.pointer (some ⟨eb, 0, none⟩)) W
  simp only [sqF, Option.bind_eq_some_iff] at h
  obtain ⟨r1, h1, h⟩ := h
  obtain ⟨hF, hk0⟩ := fc_start w eb p gm hb
  obtain ⟨Tx, ux, rfl⟩ := hx.iface
  obtain ⟨Ty, uy, rfl⟩ := hy.iface
  go_enter Tryz.func72, Tryz.ntmps72
  go_wp2_with fail
  clear q0 q1 q2 q3 q4 q5 q6
  generalize w.alloc (.cells #[.pointer p, .map (some gm)] 168) = W at *
  have hkd : Kept w W.drew := hk0.trans (Kept.drew W)
  have hF := hF.kept (Kept.drew W)
  have HC : Hid (Calls Tryz.prog 72 #[.iface Tx ux, .agg #[.pointer p, .map (some gm)]] W.drew fun e w2 => (∃ b, e = thrown (.iface 84 (.pointer (some ⟨b, 0, none⟩))) ∧ ChO w r (thrown (.iface 84 (.pointer (some ⟨b, 0, none⟩)))) w2) ∨ (e = .returned (.tuple #[]) ∧ w2.cell? ⟨w.heap.size, 0, none⟩ = some (.pointer p) ∧ w2.cell? ⟨w.heap.size, 1, none⟩ = some (.map (some gm)) ∧ w2.cell? ⟨eb, 1, none⟩ = some (.iface Tx ux) ∧ Hid (r1 = none ∧ Kept w w2 ∧ FC w2 w.heap.size eb p gm #[.int .i64 dpt, .iface Tx ux, .iface Ty uy] 257))) := by
    refine (hf x own r1 h1 W.drew ad _ p gm (hx.keepT (XKeep.kept hkd)) (hT.kept hkd)).mono ?_
    intro e w2 hE
    rcases hE.split with ⟨q, b, rfl, rfl, hE⟩ | ⟨rfl, rfl, hk⟩
    · simp only [Option.some.injEq] at h
      subst h
      exact .inl ⟨b, rfl, hE.pre hkd⟩
    · have hF2 := hF.kept hk
      exact .inr ⟨rfl, hF2.c.1, hF2.c.2, hF2.x (i := 1) rfl, rfl, hkd.trans hk, hF2⟩
  obtain ⟨c0, c1⟩ := hF.c
  have c2 := hF.x (i := 1) (v := .iface Tx ux) rfl
  have HT : Hid _ := hT
  have HFF : Hid _ := hf
  have HH : Hid _ := h
  have HY : Hid _ := hy
  clear hT hF hk0 hkd hx hy h1 hf h hb
  go_region_held2 (fun w' => w'.cell? ⟨w.heap.size, 0, none⟩ = some (.pointer p) ∧ w'.cell? ⟨w.heap.size, 1, none⟩ = some (.map (some gm)) ∧ w'.cell? ⟨eb, 1, none⟩ = some (.iface Tx ux)) (go_keep) (first | (go_at_call 72; refine Calls.mono HC.out ?_; rintro e w2 (⟨a, rfl, hE⟩ | ⟨rfl, d0, d1, d2, HR⟩); exact ⟨rfl, hE⟩; clear HC))
  all_goals
    obtain ⟨rfl, hk2, hF2⟩ := HR.out
    have hkd : Kept w w2.drew := hk2.trans (Kept.drew w2)
    have hF3 := hF2.kept (Kept.drew w2)
    have HC : Hid (Calls Tryz.prog 72 #[.iface Ty uy, .agg #[.pointer p, .map (some gm)]] w2.drew fun e w3 => (∃ b, e = thrown (.iface 84 (.pointer (some ⟨b, 0, none⟩))) ∧ ChO w r (thrown (.iface 84 (.pointer (some ⟨b, 0, none⟩)))) w3) ∨ (e = .returned (.tuple #[]) ∧ w3.cell? ⟨w.heap.size, 0, none⟩ = some (.pointer p) ∧ w3.cell? ⟨w.heap.size, 1, none⟩ = some (.map (some gm)) ∧ w3.cell? ⟨eb, 2, none⟩ = some (.iface Ty uy) ∧ Hid (ChO w r (.returned (.tuple #[])) w3))) := by
      refine (HFF.out y own r HH.out w2.drew ad _ p gm (PX.keepT (XKeep.kept hkd) HY.out) (HT.out.kept hkd)).mono ?_
      intro e w3 hE
      rcases hE.split with ⟨q, b, rfl, rfl, hE⟩ | ⟨rfl, rfl, hk⟩
      · exact .inl ⟨b, rfl, hE.pre hkd⟩
      · have hF4 := hF3.kept hk
        exact .inr ⟨rfl, hF4.c.1, hF4.c.2, hF4.x (i := 2) rfl, hkd.trans hk, rfl⟩
    obtain ⟨c0, c1⟩ := hF3.c
    have c2 := hF3.x (i := 2) (v := .iface Ty uy) rfl
    clear hk2 hF2 hkd hF3 HR HFF HH HT HY d0 d1 d2
    go_wp2_with fail
    go_region_held2 (fun w' => w'.cell? ⟨w.heap.size, 0, none⟩ = some (.pointer p) ∧ w'.cell? ⟨w.heap.size, 1, none⟩ = some (.map (some gm)) ∧ w'.cell? ⟨eb, 2, none⟩ = some (.iface Ty uy)) (go_keep) (first | (go_at_call 72; refine Calls.mono HC.out ?_; rintro e w3 (⟨a, rfl, hE⟩ | ⟨rfl, d0, d1, d2, HR⟩); exact ⟨rfl, hE⟩; clear HC))
    all_goals
      go_wp2
      exact bodyPost_end (results_none Tryz.results72 _ _ _) rfl HR.out
end Go.Proofs.YtleenphlgbklmabGreatDoor

namespace Go.Proofs.YtleenphlgbklmabGreatDoor
open Go.RowKit

/-- a value of a type's kind. -/
def IfV (v : Value) : Prop := v = .nilIface ∨ ∃ T u, v = .iface T u
theorem with_v (w : World) (p : Option Addr) (gm : Nat) (n : ByteArray) {v : Value} (hv : IfV v) : Calls Tryz.prog 104 #[.agg #[.pointer p, .map (some gm)], .string n, v] w fun e w' => ∃ q, e = .returned (.agg #[.pointer (some ⟨q, 0, none⟩), .map (some gm)]) ∧ w'.heap[q]? = some (.cells #[.string n, v, .bool false, .pointer p] 287 (0, 0)) ∧ Kept w w' := by
  rcases hv with rfl | ⟨T, u, rfl⟩
  · exact with_nil w p gm n
  · exact with_any w p gm n T u
theorem grpF_snoc (own : List Bd) : ∀ (j : Nat) (names : List ByteArray) (ts : List TR) (bs : List Bd) (h : j < names.length) (h2 : j < ts.length), grpF (names.take (j + 1)) (ts.take (j + 1)) bs = ⟨names[j], ts[j], false⟩ :: grpF (names.take j) (ts.take j) bs
  | 0, n :: ns, t :: ts, bs, _, _ => by simp [grpF]
  | j + 1, n :: ns, t :: ts, bs, h, h2 => by
    have := grpF_snoc own j ns ts (⟨n, t, false⟩ :: bs) (by simpa using h) (by simpa using h2)
    simpa [grpF] using this
  | _, [], _, _, h, _ => by simp at h
  | _, _ :: _, [], _, _, h => by simp at h
theorem set2_at {W : World} {sb : Nat} {x y : Value} {T : TypeId} (h : W.heap[sb]? = some (.cells #[x, y] T (0, 0))) (x' y' : Value) : ((W.setCell ⟨sb, 0, none⟩ x').setCell ⟨sb, 1, none⟩ y').heap[sb]? = some (.cells #[x', y'] T (0, 0)) := by simp [World.setCell, h, Array.getElem?_modify]
theorem set2_ne (W : World) {sb k : Nat} (hk : k ≠ sb) (x' y' : Value) : ((W.setCell ⟨sb, 0, none⟩ x').setCell ⟨sb, 1, none⟩ y').heap[k]? = W.heap[k]? := (Below.heap_setCell _ _ _ k (fun z => hk z)).trans (Below.heap_setCell _ _ _ k (fun z => hk z))
theorem set2_kept {w W : World} (h : Kept w W) {sb : Nat} (hs : w.heap.size ≤ sb) (x' y' : Value) : Kept w ((W.setCell ⟨sb, 0, none⟩ x').setCell ⟨sb, 1, none⟩ y') := ⟨h.os, h.output, by simpa using h.size, fun k hk => (set2_ne W (by omega) x' y').trans (h.block k hk)⟩
theorem set2_ch {W : World} {sb : Nat} {x y : Value} (h : W.heap[sb]? = some (.cells #[x, y] 168 (0, 0))) {R : TR → Value → Prop} {l : List Bd} {v : Value} (hc : CH W R l v) (x' y' : Value) : CH ((W.setCell ⟨sb, 0, none⟩ x').setCell ⟨sb, 1, none⟩ y') R l v :=
  hc.keep (fun q cs f hq => (set2_ne W (fun z => by rw [z, h] at hq; simp at hq) x' y').trans hq)
/-- what the walk over a group's names holds. -/
structure WGI (w : World) (sb : Nat) (R : TR → Value → Prop) (l : List Bd) (gm : Nat) (wr : World) (q : Option Addr) : Prop where
  kept : Kept w wr
  blk : wr.heap[sb]? = some (.cells #[.pointer q, .map (some gm)] 168 (0, 0))
  rb : wr.heap[sb + 1]? = some (.cells #[.pointer none, .map none] 168 (0, 0))
  ch : CH wr R l (.pointer q)
set_option maxRecDepth 20000 in
set_option maxHeartbeats 4000000 in
theorem withg_any {w : World} {R : TR → Value → Prop} {names : List ByteArray} {ts : List TR} {vals : List Value} {own : List Bd} {p : Option Addr} {gm ng gb cap cap2 : Nat} (hl : names.length = ts.length) (hl2 : vals.length = ts.length) (hm : names.length ≤ 1000000)
    (hn : ∀ j (h : j < names.length), w.cell? ⟨ng, j, none⟩ = some (.string names[j])) (hs : ∀ j (h : j < vals.length), w.cell? ⟨gb, j, none⟩ = some vals[j]) (hi : ∀ v, v ∈ vals → IfV v) (hR : ∀ j (h : j < ts.length) (h2 : j < vals.length), R ts[j] vals[j]) (hc : CH w R own (.pointer p)) :
    Calls Tryz.prog 141 #[.agg #[.pointer p, .map (some gm)], .slice (some ⟨ng, 0, none⟩) names.length cap, .slice (some ⟨gb, 0, none⟩) names.length cap2] w fun e w' => ∃ q, e = .returned (.agg #[.pointer q, .map (some gm)]) ∧ CH w' R (grpF names ts own) (.pointer q) ∧ Kept w w' := by
  have HI : Hid _ := hi
  have HR : Hid _ := hR
  have HN : Hid _ := hn
  have HS : Hid _ := hs
  have HC : Hid _ := hc
  have HL : Hid _ := And.intro hl hl2
  clear hi hR hn hs hc hl hl2
  go_enter Tryz.func141, Tryz.ntmps141
  go_wp2_with fail
  have hb0 : ((w.alloc (.cells #[.pointer p, .map (some gm)] 168)).alloc (.cells #[.pointer none, .map none] 168)).heap[w.heap.size]? = some (.cells #[.pointer p, .map (some gm)] 168 (0, 0)) := (Kept.alloc _ _).blk (heap_alloc_new _ _)
  have hk0 : Kept w ((w.alloc (.cells #[.pointer p, .map (some gm)] 168)).alloc (.cells #[.pointer none, .map none] 168)) := (Kept.alloc _ _).trans (Kept.alloc _ _)
  have HW : Hid (WGI w w.heap.size R own gm ((w.alloc (.cells #[.pointer p, .map (some gm)] 168)).alloc (.cells #[.pointer none, .map none] 168)) p) := ⟨hk0, hb0, by simpa using heap_alloc_new (w.alloc (.cells #[.pointer p, .map (some gm)] 168)) (.cells #[.pointer none, .map none] 168), HC.out.keep (fun q cs f h => hk0.blk h)⟩
  generalize (w.alloc (.cells #[.pointer p, .map (some gm)] 168)).alloc (.cells #[.pointer none, .map none] 168) = W0 at *
  clear hk0 hb0
  go_loopw [11] (fun i wr => ∃ (j : Nat) (q : Option Addr), j ≤ names.length ∧ i = .int .i64 j ∧ Hid (WGI w w.heap.size R (grpF (names.take j) (ts.take j) own) gm wr q)) (fun i _ => names.length - (intOf i).toNat)
  case atStart => exact ⟨0, p, Nat.zero_le _, rfl, HW.out⟩
  case round =>
    obtain ⟨j, q, hj, rfl, HJ⟩ := hrel
    have c0 : wr.cell? ⟨w.heap.size, 0, none⟩ = some (.pointer q) := by simp [World.cell?, HJ.out.blk]
    have c1 : wr.cell? ⟨w.heap.size, 1, none⟩ = some (.map (some gm)) := by simp [World.cell?, HJ.out.blk]
    by_cases hlt : j < names.length
    · have hlv : j < vals.length := by rw [HL.out.2, ← HL.out.1]; exact hlt
      have hlt2 : j < ts.length := by rw [← HL.out.1]; exact hlt
      have HE : Hid _ := grpF_snoc own j names ts own hlt hlt2
      have cn := HJ.out.kept.cell (HN.out j hlt)
      have cs := HJ.out.kept.cell (HS.out j hlv)
      have HRj : Hid _ := HR.out j hlt2 hlv
      have hif := HI.out _ (List.getElem_mem hlv)
      generalize vals[j] = v at *
      generalize names[j] = n at *
      generalize ts[j] = t at *
      generalize grpF (names.take j) (ts.take j) own = l at *
      have HCl : Hid (Calls Tryz.prog 104 #[.agg #[.pointer q, .map (some gm)], .string n, v] wr.drew fun e w2 => ∃ q2, e = .returned (.agg #[.pointer (some ⟨q2, 0, none⟩), .map (some gm)]) ∧ w2.cell? ⟨w.heap.size, 0, none⟩ = some (.pointer q) ∧ w2.cell? ⟨w.heap.size, 1, none⟩ = some (.map (some gm)) ∧ w2.cell? ⟨gb, j, none⟩ = some v ∧ w2.frozen? ⟨w.heap.size, 0, none⟩ = false ∧ w2.frozen? ⟨w.heap.size, 1, none⟩ = false ∧
          Hid (WGI w w.heap.size R (⟨n, t, false⟩ :: l) gm ((w2.setCell ⟨w.heap.size, 0, none⟩ (.pointer (some ⟨q2, 0, none⟩))).setCell ⟨w.heap.size, 1, none⟩ (.map (some gm))) (some ⟨q2, 0, none⟩))) := by
        refine (with_v wr.drew q gm n hif).mono ?_
        rintro e w2 ⟨q2, rfl, hq2, hk2⟩
        have hk3 : Kept wr w2 := (Kept.drew wr).trans hk2
        have hb3 := hk3.blk HJ.out.blk
        refine ⟨q2, rfl, hk3.cell c0, hk3.cell c1, hk3.cell cs, by simp [World.frozen?, hb3], by simp [World.frozen?, hb3], ?_⟩
        have hk4 := HJ.out.kept.trans hk3
        have hch : CH w2 R (⟨n, t, false⟩ :: l) (.pointer (some ⟨q2, 0, none⟩)) := ⟨q2, v, .pointer q, rfl, hq2, HRj.out, HJ.out.ch.keep (fun q cs f h => hk3.blk h)⟩
        exact ⟨set2_kept hk4 (Nat.le_refl _) _ _, set2_at hb3 _ _, (set2_ne w2 (by omega) _ _).trans (hk3.blk HJ.out.rb), set2_ch hb3 hch _ _⟩
      have e0 : wr.drew.cell? ⟨w.heap.size, 0, none⟩ = some (.pointer q) := c0
      have e1 : wr.drew.cell? ⟨w.heap.size, 1, none⟩ = some (.map (some gm)) := c1
      have es : wr.drew.cell? ⟨gb, j, none⟩ = some v := cs
      clear HN HS HI HR HC HL HW
      rcases hif with rfl | ⟨T, u, rfl⟩
      all_goals
        go_wp2_with fail
        go_region_with (go_at_call 104; refine Calls.mono HCl.out ?_; rintro e w2 ⟨q2, rfl, d0, d1, d2, d3, d4, HD⟩; clear HCl)
        all_goals
          generalize (w2.setCell ⟨w.heap.size, 0, none⟩ (.pointer (some ⟨q2, 0, none⟩))).setCell ⟨w.heap.size, 1, none⟩ (.map (some gm)) = Z at *
          go_wp2
          go_roundw
          case measure => simp [intOf]; omega
          case rel => exact ⟨j + 1, some ⟨q2, 0, none⟩, hlt, by go_num, by rw [HE.out]; exact HD.out⟩
    · have r0 : wr.cell? ⟨w.heap.size + 1, 0, none⟩ = some (.pointer none) := by simp [World.cell?, HJ.out.rb]
      have r1 : wr.cell? ⟨w.heap.size + 1, 1, none⟩ = some (.map none) := by simp [World.cell?, HJ.out.rb]
      have r2 : wr.frozen? ⟨w.heap.size + 1, 0, none⟩ = false := by simp [World.frozen?, HJ.out.rb]
      have r3 : wr.frozen? ⟨w.heap.size + 1, 1, none⟩ = false := by simp [World.frozen?, HJ.out.rb]
      have HF : Hid (CH ((wr.setCell ⟨w.heap.size + 1, 0, none⟩ (.pointer q)).setCell ⟨w.heap.size + 1, 1, none⟩ (.map (some gm))) R (grpF names ts own) (.pointer q) ∧ Kept w ((wr.setCell ⟨w.heap.size + 1, 0, none⟩ (.pointer q)).setCell ⟨w.heap.size + 1, 1, none⟩ (.map (some gm)))) := by
        have h1 := HJ.out.ch
        rw [List.take_of_length_le (by omega), List.take_of_length_le (by rw [← HL.out.1]; omega)] at h1
        exact ⟨set2_ch HJ.out.rb h1 _ _, set2_kept HJ.out.kept (by omega) _ _⟩
      have hz := set2_at HJ.out.rb (.pointer q) (.map (some gm))
      have z0 : ((wr.setCell ⟨w.heap.size + 1, 0, none⟩ (.pointer q)).setCell ⟨w.heap.size + 1, 1, none⟩ (.map (some gm))).cell? ⟨w.heap.size + 1, 0, none⟩ = some (.pointer q) := by simp [World.cell?, hz]
      have z1 : ((wr.setCell ⟨w.heap.size + 1, 0, none⟩ (.pointer q)).setCell ⟨w.heap.size + 1, 1, none⟩ (.map (some gm))).cell? ⟨w.heap.size + 1, 1, none⟩ = some (.map (some gm)) := by simp [World.cell?, hz]
      clear hz HN HS HI HR HC HL HW
      go_wp2_with fail
      generalize (wr.setCell ⟨w.heap.size + 1, 0, none⟩ (.pointer q)).setCell ⟨w.heap.size + 1, 1, none⟩ (.map (some gm)) = Z at *
      exact bodyPost_ret (v := .agg #[.pointer q, .map (some gm)]) (by simp [results, Tryz.results141, go_sem, z0, z1]) rfl ⟨q, rfl, HF.out⟩
end Go.Proofs.YtleenphlgbklmabGreatDoor

namespace Go.Proofs.YtleenphlgbklmabGreatDoor
open Go.RowKit

/-- a row of types. -/
def TRow (w : World) (g : Nat) (vals : List Value) : Prop := w.heap[g]? = some (.cells vals.toArray 77 (0, 0))
theorem TRow.cell {w : World} {g : Nat} {vals : List Value} (h : TRow w g vals) (j : Nat) (hj : j < vals.length) : w.cell? ⟨g, j, none⟩ = some vals[j] := by
  unfold TRow at h
  simp [World.cell?, h, hj]
theorem not_tb {vals : Array Value} : ¬ TB (.cells vals 77 (0, 0)) := by
  rintro ⟨cs', e', f', hx, ht⟩
  simp only [Obj.cells.injEq] at hx
  obtain ⟨_, rfl, _⟩ := hx
  rcases ht with e | e | e | e <;> cases e
theorem TRow.kt {w w' : World} {g : Nat} {vals : List Value} {ad : List Nat} (h : TRow w g vals) (k : Kt ad (fun _ => False) w w') : TRow w' g vals := k.blk _ _ h id not_tb
/-- the types of a row. -/
def RVs (ad : List Nat) (ts : List TR) (vals : List Value) : Prop := vals.length = ts.length ∧ ∀ j (h : j < ts.length) (h2 : j < vals.length), RV ad ts[j] vals[j]
theorem Tryz.mkPr (w : World) : (Instr.makeMap 338 none).run Tryz.prog w = .ok (.map (some w.heap.size)) (w.alloc (.map #[] 0)) := by kernel_rfl
set_option maxRecDepth 20000 in
set_option maxHeartbeats 4000000 in
theorem sames_sx {σ : St} {ts us : List TR} {b : Bool} (h : samesF σ ts us = some b) (hl : us.length = ts.length) (hm : ts.length ≤ 1000000) {w : World} {ad : List Nat} {g g2 cap cap2 : Nat} {vals valu : List Value} (hs : SX w ad σ) (hr : TRow w g vals) (hr2 : TRow w g2 valu) (hv : RVs ad ts vals) (hv2 : RVs ad us valu) :
    Calls Tryz.prog 183 #[.slice (some ⟨g, 0, none⟩) ts.length cap, .slice (some ⟨g2, 0, none⟩) ts.length cap2] w fun e w' => e = .returned (.bool b) ∧ SX w' ad σ ∧ Kt ad (fun _ => False) w w' := by
  have HS : Hid (SX w ad σ) := hs
  have HR : Hid (TRow w g vals ∧ TRow w g2 valu) := ⟨hr, hr2⟩
  have HV : Hid (RVs ad ts vals ∧ RVs ad us valu) := ⟨hv, hv2⟩
  have HL : Hid (us.length = ts.length) := hl
  have HB : Hid (samesF σ ts us = some b) := h
  clear hs hr hr2 hv hv2 hl h
  go_enter Tryz.func183, Tryz.ntmps183
  go_wp2_with fail
  go_loopw [9] (fun i wr => ∃ j : Nat, j ≤ ts.length ∧ i = .int .i64 j ∧ Hid (SX wr ad σ) ∧ Hid (Kt ad (fun _ => False) w wr) ∧ Hid (samesF σ (ts.drop j) (us.drop j) = some b)) (fun i _ => ts.length - (intOf i).toNat)
  case atStart => exact ⟨0, Nat.zero_le _, rfl, HS, Kt.refl _ _ _, HB.out⟩
  case round =>
    obtain ⟨j, hj, rfl, HSr, HKr, HBr⟩ := hrel
    by_cases hlt : j < ts.length
    · have hlu : j < us.length := by rw [HL.out]; exact hlt
      have hl1 : j < vals.length := by rw [HV.out.1.1]; exact hlt
      have hl2 : j < valu.length := by rw [HV.out.2.1]; exact hlu
      have c1 := (HR.out.1.kt HKr.out).cell j hl1
      have c2 := (HR.out.2.kt HKr.out).cell j hl2
      have hv1 := HV.out.1.2 j hlt hl1
      have hv2 := HV.out.2.2 j hlu hl2
      obtain ⟨p, hp, hb⟩ : ∃ p, sameF 500 σ ts[j] us[j] [] = some p ∧ (if p.1 then samesF σ (ts.drop (j + 1)) (us.drop (j + 1)) else some false) = some b := by
        have := HBr.out
        rw [List.drop_eq_getElem_cons hlt, List.drop_eq_getElem_cons hlu] at this
        simpa only [samesF, Option.bind_eq_some_iff] using this
      have mk := Tryz.mkPr wr
      have HC : Hid (Calls Tryz.prog 195 #[.map (some wr.heap.size), vals[j], valu[j]] (wr.alloc (.map #[] 0)) fun e w' => e = .returned (.bool p.1) ∧ Hid (SX w' ad σ ∧ Kt ad (fun _ => False) w w')) := by
        have hk := Kept.alloc wr (.map #[] 0)
        refine (same_sx 500 σ ts[j] us[j] [] p hp (wr.alloc (.map #[] 0)) ad vals[j] valu[j] wr.heap.size (SX.kept HSr.out hk) hv1 hv2 (VV.none _ _ _) (fun e he => by simp at he)).mono ?_
        rintro e w' hE
        have hkt : Kt ad (fun q => q = wr.heap.size) wr w' := (Kt.of_kept hk).trans hE.2.2.2.2
        exact ⟨hE.1, hE.2.1, HKr.out.trans (hkt.mono (fun q hq z => by omega))⟩
      have HBn : Hid _ := hb
      obtain ⟨T1, u1, e1⟩ := hv1.iface
      obtain ⟨T2, u2, e2⟩ := hv2.iface
      rw [e1] at c1 HC
      rw [e2] at c2 HC
      have c3 := (Kept.alloc wr (.map #[] 0)).cell c2
      obtain ⟨p1, p2⟩ := p
      clear hp hb hv1 hv2 e1 e2
      clear HS HR HV HL HB HBr HSr HKr
      cases p1 with
      | true =>
        go_wp2_with fail
        refine Calls.mono HC.out ?_
        rintro e w' ⟨rfl, HF⟩
        clear HC
        go_wp2
        go_roundw
        case measure => simp [intOf]; omega
        case rel => exact ⟨j + 1, hlt, by go_num, HF.out.1, HF.out.2, HBn.out⟩
      | false =>
        have hbf : b = false := by have := HBn.out; simpa using this.symm
        subst hbf
        go_wp2_with fail
        refine Calls.mono HC.out ?_
        rintro e w' ⟨rfl, HF⟩
        clear HC
        go_wp2
        go_ret
        exact ⟨rfl, HF.out⟩
    · have hbt : b = true := by
        have := HBr.out
        rw [List.drop_of_length_le (by omega)] at this
        simpa [samesF] using this.symm
      subst hbt
      clear HS HR HV HL HB HBr
      go_wp2
      go_ret
      exact ⟨rfl, HSr.out, HKr.out⟩
end Go.Proofs.YtleenphlgbklmabGreatDoor

namespace Go.Proofs.YtleenphlgbklmabGreatDoor
open Go.RowKit

def gNd : Nd := ⟨.vr { data := #[] } true, none⟩
theorem anyF_eq : ∀ (k : Nat) (σ : St), anyF k σ = ((List.range k).map (fun i => .nd .vr (σ.length + i)), σ ++ List.replicate k gNd)
  | 0, σ => by simp [anyF]
  | k + 1, σ => by
    have := anyF_eq k (σ ++ [⟨.vr { data := #[] } true, none⟩])
    simp only [anyF, this]
    refine Prod.ext ?_ ?_
    · simp only [List.range_succ_eq_map, List.map_cons, List.map_map, List.length_append, List.length_singleton]
      simp only [Nat.add_zero]
      congr 1
      apply List.map_congr_left
      intro i _
      simp only [Function.comp]
      congr 1
      omega
    · show σ ++ [gNd] ++ List.replicate k gNd = _
      rw [List.append_assoc]
      rfl
theorem Tryz.infoTypI : (Tryz.prog.info? 77).map (fun i => (i.zero, i.size, i.bytes)) = some (some .nilIface, 1, 16) := by kernel_rfl
def vV (b : Nat) : Value := .iface Kd.vr.tp (.pointer (some ⟨b, 0, none⟩))
/-- what stands while a group's first schemes are made. -/
structure AnI (w : World) (ad : List Nat) (σ : St) (k : Nat) (u : List Nat) (wr : World) : Prop where
  sx : SX wr (ad ++ u) (σ ++ List.replicate u.length gNd)
  ws : WS (σ ++ List.replicate u.length gNd)
  row : wr.heap[w.heap.size]? = some (.cells (u.map vV ++ List.replicate (k - u.length) Value.nilIface).toArray 77 (0, 0))
  up : ∀ q, q ∈ u → w.heap.size < q
  kt : Kt ad (fun _ => False) w wr
  lo : ∀ q, q ∈ ad → q < w.heap.size
theorem made_rep (k : Nat) : madeCells #[Value.nilIface] k = (List.replicate k Value.nilIface).toArray := by
  rw [← toList_madeCells_one]
theorem row_set {W : World} {g : Nat} {a rest : List Value} {x : Value} {T : TypeId} (h : W.heap[g]? = some (.cells (a ++ x :: rest).toArray T (0, 0))) (n : Nat) (hn : n = a.length) (v : Value) : (W.setCell ⟨g, n, none⟩ v).heap[g]? = some (.cells (a ++ v :: rest).toArray T (0, 0)) := by
  subst hn
  simp [World.setCell, h, Array.getElem?_modify]
theorem row_get {W : World} {g : Nat} {a rest : List Value} {x : Value} {T : TypeId} (h : W.heap[g]? = some (.cells (a ++ x :: rest).toArray T (0, 0))) (n : Nat) (hn : n = a.length) : W.cell? ⟨g, n, none⟩ = some x := by
  subst hn
  simp [World.cell?, h]
theorem rep_cons {k n : Nat} (h : n < k) : List.replicate (k - n) Value.nilIface = .nilIface :: List.replicate (k - (n + 1)) Value.nilIface := by
  rw [← List.replicate_succ]
  congr 1
  omega
theorem AnI.start {w : World} {ad : List Nat} {σ : St} (hs : SX w ad σ) (hw : WS σ) (k : Nat) : AnI w ad σ k [] (w.alloc (.cells (madeCells #[.nilIface] k) 77)) :=
  ⟨by simpa using SX.kept hs (Kept.alloc w _), by simpa using hw, by rw [made_rep]; exact heap_alloc_new _ _, by simp, Kt.of_kept (Kept.alloc _ _), fun q hq => hs.lt hq⟩
theorem AnI.step {w wr : World} {ad : List Nat} {σ : St} {k : Nat} {u : List Nat} (h : AnI w ad σ k u wr) (hu : u.length < k) : AnI w ad σ k (u ++ [wr.heap.size]) ((wr.alloc (.cells #[.nilIface, .string { data := #[] }, .bool true] 148)).setCell ⟨w.heap.size, u.length, none⟩ (vV wr.heap.size)) := by
  have hlt : w.heap.size < wr.heap.size := lt_of_block h.row
  have hk := Kept.alloc wr (.cells #[.nilIface, .string { data := #[] }, .bool true] 148)
  have hne : ∀ q, q ≠ w.heap.size → ((wr.alloc (.cells #[.nilIface, .string { data := #[] }, .bool true] 148)).setCell ⟨w.heap.size, u.length, none⟩ (vV wr.heap.size)).heap[q]? = (wr.alloc (.cells #[.nilIface, .string { data := #[] }, .bool true] 148)).heap[q]? := fun q hq => Below.heap_setCell _ _ _ q (fun z => hq z)
  have er : σ ++ List.replicate (u ++ [wr.heap.size]).length gNd = (σ ++ List.replicate u.length gNd) ++ [⟨.vr { data := #[] } true, none⟩] := by
    rw [List.length_append, List.length_singleton, List.replicate_succ', List.append_assoc]
    rfl
  refine ⟨?_, ?_, ?_, ?_, ?_, h.lo⟩
  · rw [er, ← List.append_assoc]
    refine (SX.newv h.sx h.ws true).keep (fun b o hb ho => (hne b (fun z => ?_)).trans ho)
    subst z
    simp only [List.mem_append, List.mem_singleton] at hb
    rcases hb with (hb | hb) | hb
    · have := h.lo _ hb; omega
    · have := h.up _ hb; omega
    · omega
  · rw [er]
    exact h.ws.add _
  · have hr := hk.blk h.row
    rw [rep_cons hu] at hr
    have := row_set hr u.length (by simp) (vV wr.heap.size)
    rw [this, List.length_append, List.length_singleton, List.map_append, List.append_assoc]
    rfl
  · intro q hq
    simp only [List.mem_append, List.mem_singleton] at hq
    rcases hq with hq | rfl
    · exact h.up q hq
    · exact hlt
  · refine ⟨h.kt.os, h.kt.output, ?_, fun q o hq hn ht => ?_⟩
    · have := h.kt.size
      simp
      omega
    · exact (hne q (by have := lt_of_block hq; omega)).trans (hk.blk (h.kt.blk0 q o hq hn ht))
set_option maxRecDepth 20000 in
set_option maxHeartbeats 4000000 in
theorem any_sx {w : World} {ad : List Nat} {σ : St} (hs : SX w ad σ) (hw : WS σ) (k : Nat) (hk : k ≤ 1000000) :
    Calls Tryz.prog 180 #[.int .i64 k] w fun e w' => ∃ g vals ad', e = .returned (.slice (some ⟨g, 0, none⟩) k k) ∧ TRow w' g vals ∧ RVs ad' (anyF k σ).1 vals ∧ SX w' ad' (anyF k σ).2 ∧ WS (anyF k σ).2 ∧ w.heap.size ≤ g ∧ Gw (fun _ => False) ad ad' w w' := by
  have hmk := run_make_row' (P := Tryz.prog) 273 77 .nilIface 16 Tryz.underlying273 Tryz.infoTypI rfl .i64 .i64 k (by omega) (by omega) w
  go_enter Tryz.func180, Tryz.ntmps180
  go_wp2_with fail
  have HA : Hid (AnI w ad σ k [] (w.alloc (.cells (madeCells #[.nilIface] k) 77))) := AnI.start hs hw k
  have HS : Hid (SX w ad σ) := hs
  generalize w.alloc (.cells (madeCells #[.nilIface] k) 77) = W at *
  clear hmk hs hw
  go_loopw [9] (fun i wr => ∃ u : List Nat, u.length ≤ k ∧ i = .int .i64 u.length ∧ Hid (AnI w ad σ k u wr)) (fun i _ => k - (intOf i).toNat)
  case atStart => exact ⟨[], Nat.zero_le _, rfl, HA⟩
  case round =>
    obtain ⟨u, hu, rfl, HU⟩ := hrel
    by_cases hlt : u.length < k
    · have HN : Hid _ := HU.out.step hlt
      have hrow := (Kept.alloc wr (.cells #[.nilIface, .string { data := #[] }, .bool true] 148)).blk HU.out.row
      have c0 : (wr.alloc (.cells #[.nilIface, .string { data := #[] }, .bool true] 148)).cell? ⟨w.heap.size, u.length, none⟩ = some .nilIface := by
        rw [rep_cons hlt] at hrow
        exact row_get hrow u.length (by simp)
      have c1 : (wr.alloc (.cells #[.nilIface, .string { data := #[] }, .bool true] 148)).frozen? ⟨w.heap.size, u.length, none⟩ = false := by simp [World.frozen?, hrow]
      clear hrow
      go_wp2_with fail
      refine ⟨⟨u ++ [wr.heap.size], by simp; omega, by simp, HN.out⟩, ?_⟩
      simp [intOf]
      omega
    · obtain rfl : u.length = k := by omega
      have HF : Hid (∃ g vals ad', Ending.returned (.slice (some ⟨w.heap.size, 0, none⟩) u.length u.length) = .returned (.slice (some ⟨g, 0, none⟩) u.length u.length) ∧ TRow wr g vals ∧ RVs ad' (anyF u.length σ).1 vals ∧ SX wr ad' (anyF u.length σ).2 ∧ WS (anyF u.length σ).2 ∧ w.heap.size ≤ g ∧ Gw (fun _ => False) ad ad' w wr) := by
        have hlen := SX.len HS.out
        have hrow := HU.out.row
        rw [Nat.sub_self, List.replicate_zero, List.append_nil] at hrow
        rw [anyF_eq]
        refine ⟨w.heap.size, u.map vV, ad ++ u, rfl, hrow, ⟨by simp, fun j h h2 => ?_⟩, HU.out.sx, HU.out.ws, Nat.le_refl _, ⟨u, rfl, fun q hq => Nat.le_of_lt (HU.out.up q hq)⟩, HU.out.kt⟩
        simp only [List.getElem_map, List.getElem_range]
        refine ⟨u[j]'(by simpa using h2), ?_, rfl⟩
        rw [List.getElem?_append_right (by omega), hlen, Nat.add_sub_cancel_left]
        simp
      clear HA HS HU
      go_wp2_with fail
      exact bodyPost_ret (results_tmp Tryz.results180 _ _ _) rfl HF.out
end Go.Proofs.YtleenphlgbklmabGreatDoor
