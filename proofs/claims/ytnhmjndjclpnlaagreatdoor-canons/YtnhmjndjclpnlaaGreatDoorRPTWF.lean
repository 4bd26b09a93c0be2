import Derived.Test.YtnhmjndjclpnlaaGreatDoorRPTWB
set_option linter.unusedVariables false
set_option linter.unusedSimpArgs false
namespace Go.Proofs.YtnhmjndjclpnlaaGreatDoor
open Go.RowKit

/-- where the writer began: all of the types lie there. -/
structure W0 (w0 : World) (B mb : Nat) : Prop where
  sz : w0.heap.size ≤ B
  mp : ∃ es c, w0.heap[mb]? = some (.map es c)
theorem W0.at {w0 w : World} {B mb : Nat} (h : W0 w0 B mb) (k : Kp (TS B mb) w0 w) {q : Nat} {cs : Array Value} {e : TypeId} {f : Nat × Nat} (hq : w0.heap[q]? = some (.cells cs e f)) : w.heap[q]? = some (.cells cs e f) := by
  refine k.blk hq ?_
  rintro (z | z)
  · have := lt_of_block hq
    have := h.sz
    omega
  · obtain ⟨es, c, hm⟩ := h.mp
    rw [z, hm] at hq
    cases hq
/-- typ writes t's text, with the names that L gives. -/
def SW (w0 : World) (B b nb mb : Nat) (vb L : List Nat) (t : Ty) (v : Value) : Prop :=
  ∀ (w : World) (l : List Nat) (bs : List Value), TW w B b nb mb vb l bs → Kp (TS B mb) w0 w → (∀ n, n ∈ l → n < vb.length) → varsM t l <+: L → bs.length + 1000 * sz t ≤ 1000000000 →
    Calls Tryz.prog 102 #[.pointer (some ⟨b, 0, none⟩), v] w fun e w' => e = .returned (.tuple #[]) ∧ ∃ bs', TW w' B b nb mb vb (varsM t l) bs' ∧ bs' = bs ++ Lib.strCells (shT (cnN L) t) ∧ bs'.length ≤ bs.length + 1000 * sz t ∧ (∀ n, n ∈ varsM t l → n < vb.length) ∧ Kp (TS B mb) w w'
theorem strCells_app (a b : ByteArray) : Lib.strCells (a ++ b) = Lib.strCells a ++ Lib.strCells b := by
  simp [Lib.strCells_eq, Lib.byteCells]
set_option maxRecDepth 20000 in
set_option maxHeartbeats 1000000 in
theorem tw_list {w0 : World} {B b nb mb : Nat} {vb L : List Nat} (h0 : W0 w0 B mb) (a : Ty) (lb : Nat) (T : TypeId) (u : Value) (hlb : w0.heap[lb]? = some (.cells #[.nilIface, .iface T u] 209 (0, 0))) (ih : SW w0 B b nb mb vb L a (.iface T u)) : SW w0 B b nb mb vb L (.mk { data := #[108, 105, 115, 116] } 0 [a]) (.iface 206 (.pointer (some ⟨lb, 0, none⟩))) := by
  intro w l bs h hk0 hl hp hn
  have hsz : sz (.mk { data := #[108, 105, 115, 116] } 0 [a]) = sz a + 1 := by simp [sz, szs]
  rw [varsM_list] at hp ⊢
  rw [hsz] at hn ⊢
  rw [shT_list]
  have H1 : Hid (∀ w', Kp (fun _ => False) w w' → Calls Tryz.prog 136 #[.pointer (some ⟨b, 0, none⟩), .string { data := #[91] }] w' fun e w'' => e = .returned (.tuple #[.int .i64 ({ data := #[91] } : ByteArray).size, .nilIface]) ∧ TW w'' B b nb mb vb l (bs ++ Lib.strCells { data := #[91] }) ∧ Kp (TS B mb) w w'') := fun w' hk => ((h.kept hl hk).bwrite hl { data := #[91] } (by have : ({ data := #[91] } : ByteArray).size = 1 := rfl; omega)).mono (fun e w'' ⟨h1, h2, h3⟩ => ⟨h1, h2, (hk.mono (fun _ _ hq => hq.elim)).trans h3⟩)
  have HI : Hid _ := ih
  have t1 := Tryz.taLB (.pointer (some ⟨lb, 0, none⟩)) w
  have t2 := Tryz.taLV (.pointer (some ⟨lb, 0, none⟩)) w
  have t3 := Tryz.taLL (.pointer (some ⟨lb, 0, none⟩)) w
  have HX : Hid (∀ w1, Kp (TS B mb) w w1 → w1.cell? ⟨lb, 1, none⟩ = some (.iface T u)) := fun w1 hk1 => by simp [World.cell?, h0.at (hk0.trans hk1) hlb]
  have HKn : Hid _ := known_ptr 206 lb w (Tryz.fList lb w) (by simp [World.cell?, h0.at hk0 hlb])
  clear h hlb
  go_enter Tryz.func102, Tryz.ntmps102
  go_wp2_with fail
  refine Calls.mono HKn.out ?_
  rintro e w' ⟨rfl, hww⟩
  rw [hww]
  clear hww w' HKn
  go_wp2_with (go_at_call 136; refine Calls.mono (H1.out _ ?_) ?_; exact Kp.refl _ _; rintro e w1 ⟨rfl, hT1, hk1⟩; have hx1 := HX.out w1 hk1)
  refine Calls.mono (HI.out w1 l _ hT1 (hk0.trans hk1) hl hp (by rw [List.length_append, Lib.strCells_length]; have : ({ data := #[91] } : ByteArray).size = 1 := rfl; omega)) ?_
  rintro e w2 ⟨rfl, bs2, hT2, HB2, hl2, hv2, hk2⟩
  have HB2 : Hid _ := HB2
  have hb2 : bs2.length + 1 ≤ bs.length + 1000 * (sz a + 1) := by
    rw [List.length_append, Lib.strCells_length] at hl2
    have : ({ data := #[91] } : ByteArray).size = 1 := rfl
    omega
  have H3 : Hid _ := hT2.bwrite hv2 { data := #[93] } (by have : ({ data := #[93] } : ByteArray).size = 1 := rfl; omega)
  clear hT1 hT2 hl2 hx1
  go_wp2_with (go_at_call 136; refine Calls.mono H3.out ?_; rintro e w3 ⟨rfl, hT3, hk3⟩)
  go_end0
  refine ⟨rfl, _, hT3, ?_, ?_, hv2, (hk1.trans hk2).trans hk3⟩
  · rw [HB2.out, strCells_app, strCells_app]
    simp
  · rw [List.length_append, Lib.strCells_length]
    exact hb2
end Go.Proofs.YtnhmjndjclpnlaaGreatDoor

namespace Go.Proofs.YtnhmjndjclpnlaaGreatDoor
open Go.RowKit

set_option maxRecDepth 20000 in
set_option maxHeartbeats 1000000 in
theorem tw_pair {w0 : World} {B b nb mb : Nat} {vb L : List Nat} (h0 : W0 w0 B mb) (a c : Ty) (lb : Nat) (T : TypeId) (u : Value) (T2 : TypeId) (u2 : Value) (hlb : w0.heap[lb]? = some (.cells #[.nilIface, .iface T u, .iface T2 u2] 213 (0, 0))) (ha : ∀ l, varsM c (varsM a l) <+: L → varsM a l <+: L) (ih : SW w0 B b nb mb vb L a (.iface T u)) (ih2 : SW w0 B b nb mb vb L c (.iface T2 u2)) : SW w0 B b nb mb vb L (.mk { data := #[112, 97, 105, 114] } 0 [a, c]) (.iface 210 (.pointer (some ⟨lb, 0, none⟩))) := by
  intro w l bs h hk0 hl hp hn
  have hsz : sz (.mk { data := #[112, 97, 105, 114] } 0 [a, c]) = sz a + sz c + 1 := by simp [sz, szs]
  rw [varsM_pair] at hp ⊢
  rw [hsz] at hn ⊢
  rw [shT_pair]
  have H1 : Hid _ := h.bwrite hl { data := #[40] } (by have : ({ data := #[40] } : ByteArray).size = 1 := rfl; omega)
  have HI : Hid _ := ih
  have HI2 : Hid _ := ih2
  have HA : Hid _ := ha
  have t1 := Tryz.taPB (.pointer (some ⟨lb, 0, none⟩)) w
  have t2 := Tryz.taPV (.pointer (some ⟨lb, 0, none⟩)) w
  have t3 := Tryz.taPL (.pointer (some ⟨lb, 0, none⟩)) w
  have t4 := Tryz.taPP (.pointer (some ⟨lb, 0, none⟩)) w
  have HX : Hid (∀ w1, Kp (TS B mb) w w1 → w1.cell? ⟨lb, 1, none⟩ = some (.iface T u)) := fun w1 hk1 => by simp [World.cell?, h0.at (hk0.trans hk1) hlb]
  have HY : Hid (∀ w1, Kp (TS B mb) w w1 → w1.cell? ⟨lb, 2, none⟩ = some (.iface T2 u2)) := fun w1 hk1 => by simp [World.cell?, h0.at (hk0.trans hk1) hlb]
  have HKn : Hid _ := known_ptr 210 lb w (Tryz.fPair lb w) (by simp [World.cell?, h0.at hk0 hlb])
  clear h hlb ih ih2 ha
  go_enter Tryz.func102, Tryz.ntmps102
  go_wp2_with fail
  refine Calls.mono HKn.out ?_
  rintro e w' ⟨rfl, hww⟩
  rw [hww]
  clear hww w' HKn
  go_wp2_with (go_at_call 136; refine Calls.mono H1.out ?_; rintro e w1 ⟨rfl, hT1, hk1⟩; have hx1 := HX.out w1 hk1)
  refine Calls.mono (HI.out w1 l _ hT1 (hk0.trans hk1) hl (HA.out l hp) (by rw [List.length_append, Lib.strCells_length]; have : ({ data := #[40] } : ByteArray).size = 1 := rfl; omega)) ?_
  rintro e w2 ⟨rfl, bs2, hT2, HB2, hl2, hv2, hk2⟩
  have HB2 : Hid _ := HB2
  have hb2 : bs2.length ≤ bs.length + 1 + 1000 * sz a := by
    rw [List.length_append, Lib.strCells_length] at hl2
    have : ({ data := #[40] } : ByteArray).size = 1 := rfl
    omega
  have H3 : Hid _ := hT2.bwrite hv2 { data := #[44, 32] } (by have : ({ data := #[44, 32] } : ByteArray).size = 2 := rfl; omega)
  clear hT1 hT2 hl2 hx1
  go_wp2_with (go_at_call 136; refine Calls.mono H3.out ?_; rintro e w3 ⟨rfl, hT3, hk3⟩; have hy3 := HY.out w3 ((hk1.trans hk2).trans hk3))
  refine Calls.mono (HI2.out w3 _ _ hT3 (((hk0.trans hk1).trans hk2).trans hk3) hv2 hp (by rw [List.length_append, Lib.strCells_length]; have : ({ data := #[44, 32] } : ByteArray).size = 2 := rfl; omega)) ?_
  rintro e w4 ⟨rfl, bs4, hT4, HB4, hl4, hv4, hk4⟩
  have HB4 : Hid _ := HB4
  have hb4 : bs4.length + 1 ≤ bs.length + 1000 * (sz a + sz c + 1) := by
    rw [List.length_append, Lib.strCells_length] at hl4
    have : ({ data := #[44, 32] } : ByteArray).size = 2 := rfl
    omega
  have H5 : Hid _ := hT4.bwrite hv4 { data := #[41] } (by have : ({ data := #[41] } : ByteArray).size = 1 := rfl; omega)
  clear hT3 hT4 hl4 hy3
  go_wp2_with (go_at_call 136; refine Calls.mono H5.out ?_; rintro e w5 ⟨rfl, hT5, hk5⟩)
  go_end0
  refine ⟨rfl, _, hT5, ?_, ?_, hv4, (((hk1.trans hk2).trans hk3).trans hk4).trans hk5⟩
  · rw [HB4.out, HB2.out, strCells_app, strCells_app, strCells_app, strCells_app]
    simp
  · rw [List.length_append, Lib.strCells_length]
    exact hb4
/-- leftSide: the text in brackets, where it is an arrow's. -/
def SL (w0 : World) (B b nb mb : Nat) (vb L : List Nat) (t : Ty) (v : Value) : Prop :=
  ∀ (w : World) (l : List Nat) (bs : List Value), TW w B b nb mb vb l bs → Kp (TS B mb) w0 w → (∀ n, n ∈ l → n < vb.length) → varsM t l <+: L → bs.length + 1000 * sz t + 2 ≤ 1000000000 →
    Calls Tryz.prog 137 #[.pointer (some ⟨b, 0, none⟩), v] w fun e w' => e = .returned (.tuple #[]) ∧ ∃ bs', TW w' B b nb mb vb (varsM t l) bs' ∧ bs' = bs ++ Lib.strCells (brkT (t.kind.data.toList == ({ data := #[102, 117, 110] } : ByteArray).data.toList) (shT (cnN L) t)) ∧ bs'.length ≤ bs.length + 1000 * sz t + 2 ∧ (∀ n, n ∈ varsM t l → n < vb.length) ∧ Kp (TS B mb) w w'
end Go.Proofs.YtnhmjndjclpnlaaGreatDoor

namespace Go.Proofs.YtnhmjndjclpnlaaGreatDoor
open Go.RowKit

set_option maxRecDepth 20000 in
set_option maxHeartbeats 1000000 in
theorem tl_no {w0 : World} {B b nb mb : Nat} {vb L : List Nat} (t : Ty) (T : TypeId) (u : Value) (hta : ∀ w, (Instr.typeAssert (.iface T u) 140 214 true).run Tryz.prog w = .ok (.tuple #[.pointer none, .bool false]) w) (hkn : ∀ w l bs, TW w B b nb mb vb l bs → Kp (TS B mb) w0 w → Calls Tryz.prog 135 #[.iface T u] w fun e w' => e = .returned (.iface T u) ∧ Kp (fun _ => False) w w') (hk : (t.kind.data.toList == ({ data := #[102, 117, 110] } : ByteArray).data.toList) = false) (ih : SW w0 B b nb mb vb L t (.iface T u)) : SL w0 B b nb mb vb L t (.iface T u) := by
  intro w l bs h hk0 hl hp hn
  rw [hk]
  have HKn : Hid _ := hkn w l bs h hk0
  clear hkn
  go_enter Tryz.func137, Tryz.ntmps137
  go_wp2_with fail
  refine Calls.mono HKn.out ?_
  rintro e wk ⟨rfl, hkk⟩
  have hkT : Kp (TS B mb) w wk := hkk.mono (fun _ _ z => z.elim)
  have h := h.kept hl hkk
  have hk0 := hk0.trans hkT
  have hta := hta wk
  have HI : Hid _ := ih wk l bs h hk0 hl hp (by omega)
  clear h ih hk HKn hkk
  go_wp2_with (go_at_call 102; refine Calls.mono HI.out ?_; rintro e w1 ⟨rfl, bs1, hT1, HB1, hl1, hv1, hk1⟩; have HB1 : Hid _ := HB1)
  exact bodyPost_ret (results_none Tryz.results137 _ _ _) rfl ⟨rfl, bs1, hT1, HB1.out, by omega, hv1, hkT.trans hk1⟩
set_option maxRecDepth 20000 in
set_option maxHeartbeats 1000000 in
theorem tl_yes {w0 : World} {B b nb mb : Nat} {vb L : List Nat} (t : Ty) (u : Value) (hkn : ∀ w l bs, TW w B b nb mb vb l bs → Kp (TS B mb) w0 w → Calls Tryz.prog 135 #[.iface 214 u] w fun e w' => e = .returned (.iface 214 u) ∧ Kp (fun _ => False) w w') (hk : (t.kind.data.toList == ({ data := #[102, 117, 110] } : ByteArray).data.toList) = true) (ih : SW w0 B b nb mb vb L t (.iface 214 u)) : SL w0 B b nb mb vb L t (.iface 214 u) := by
  intro w l bs h hk0 hl hp hn
  rw [hk]
  have HKn : Hid _ := hkn w l bs h hk0
  clear hkn
  go_enter Tryz.func137, Tryz.ntmps137
  go_wp2_with fail
  refine Calls.mono HKn.out ?_
  rintro e wk ⟨rfl, hkk⟩
  have hkT : Kp (TS B mb) w wk := hkk.mono (fun _ _ z => z.elim)
  have h := h.kept hl hkk
  have hk0 := hk0.trans hkT
  have hta := Tryz.taAA u wk
  have H1 : Hid _ := h.bwrite hl { data := #[40] } (by have : ({ data := #[40] } : ByteArray).size = 1 := rfl; omega)
  have HI : Hid _ := ih
  clear h ih hk HKn hkk
  go_wp2_with (go_at_call 136; refine Calls.mono H1.out ?_; rintro e w1 ⟨rfl, hT1, hk1⟩)
  refine Calls.mono (HI.out w1 l _ hT1 (hk0.trans hk1) hl hp (by rw [List.length_append, Lib.strCells_length]; have : ({ data := #[40] } : ByteArray).size = 1 := rfl; omega)) ?_
  rintro e w2 ⟨rfl, bs2, hT2, HB2, hl2, hv2, hk2⟩
  have HB2 : Hid _ := HB2
  have hb2 : bs2.length + 1 ≤ bs.length + 1000 * sz t + 2 := by
    rw [List.length_append, Lib.strCells_length] at hl2
    have : ({ data := #[40] } : ByteArray).size = 1 := rfl
    omega
  have H3 : Hid _ := hT2.bwrite hv2 { data := #[41] } (by have : ({ data := #[41] } : ByteArray).size = 1 := rfl; omega)
  clear hT1 hT2 hl2
  go_wp2_with (go_at_call 136; refine Calls.mono H3.out ?_; rintro e w3 ⟨rfl, hT3, hk3⟩)
  go_end0
  refine ⟨rfl, _, hT3, ?_, ?_, hv2, hkT.trans ((hk1.trans hk2).trans hk3)⟩
  · rw [HB2.out]
    simp [brkT, strCells_app]
  · rw [List.length_append, Lib.strCells_length]
    exact hb2
set_option maxRecDepth 20000 in
set_option maxHeartbeats 1000000 in
theorem tw_fn {w0 : World} {B b nb mb : Nat} {vb L : List Nat} (h0 : W0 w0 B mb) (a c : Ty) (lb : Nat) (T : TypeId) (u : Value) (T2 : TypeId) (u2 : Value) (hlb : w0.heap[lb]? = some (.cells #[.nilIface, .iface T u, .iface T2 u2] 217 (0, 0))) (ha : ∀ l, varsM c (varsM a l) <+: L → varsM a l <+: L) (ih : SL w0 B b nb mb vb L a (.iface T u)) (ih2 : SW w0 B b nb mb vb L c (.iface T2 u2)) : SW w0 B b nb mb vb L (.mk { data := #[102, 117, 110] } 0 [a, c]) (.iface 214 (.pointer (some ⟨lb, 0, none⟩))) := by
  intro w l bs h hk0 hl hp hn
  have hsz : sz (.mk { data := #[102, 117, 110] } 0 [a, c]) = sz a + sz c + 1 := by simp [sz, szs]
  rw [varsM_fn] at hp ⊢
  rw [hsz] at hn ⊢
  rw [shT_fn]
  have HI : Hid _ := ih w l bs h hk0 hl (ha l hp) (by omega)
  have HI2 : Hid _ := ih2
  have t1 := Tryz.taAB (.pointer (some ⟨lb, 0, none⟩)) w
  have t2 := Tryz.taAV (.pointer (some ⟨lb, 0, none⟩)) w
  have t3 := Tryz.taAL (.pointer (some ⟨lb, 0, none⟩)) w
  have t4 := Tryz.taAP (.pointer (some ⟨lb, 0, none⟩)) w
  have t5 := Tryz.taAA (.pointer (some ⟨lb, 0, none⟩)) w
  have hx : w.cell? ⟨lb, 1, none⟩ = some (.iface T u) := by simp [World.cell?, h0.at hk0 hlb]
  have HY : Hid (∀ w1, Kp (TS B mb) w w1 → w1.cell? ⟨lb, 2, none⟩ = some (.iface T2 u2)) := fun w1 hk1 => by simp [World.cell?, h0.at (hk0.trans hk1) hlb]
  have HKn : Hid _ := known_ptr 214 lb w (Tryz.fArr lb w) (by simp [World.cell?, h0.at hk0 hlb])
  clear h hlb ih ih2 ha
  go_enter Tryz.func102, Tryz.ntmps102
  go_wp2_with fail
  refine Calls.mono HKn.out ?_
  rintro e w' ⟨rfl, hww⟩
  rw [hww]
  clear hww w' HKn
  go_wp2_with fail
  refine Calls.mono HI.out ?_
  rintro e w2 ⟨rfl, bs2, hT2, HB2, hl2, hv2, hk2⟩
  have HB2 : Hid _ := HB2
  have H3 : Hid _ := hT2.bwrite hv2 { data := #[32, 45, 62, 32] } (by have : ({ data := #[32, 45, 62, 32] } : ByteArray).size = 4 := rfl; omega)
  clear hT2 hx
  go_wp2_with (go_at_call 136; refine Calls.mono H3.out ?_; rintro e w3 ⟨rfl, hT3, hk3⟩; have hy3 := HY.out w3 (hk2.trans hk3))
  refine Calls.mono (HI2.out w3 _ _ hT3 ((hk0.trans hk2).trans hk3) hv2 hp (by rw [List.length_append, Lib.strCells_length]; have : ({ data := #[32, 45, 62, 32] } : ByteArray).size = 4 := rfl; omega)) ?_
  rintro e w4 ⟨rfl, bs4, hT4, HB4, hl4, hv4, hk4⟩
  have HB4 : Hid _ := HB4
  have hb4 : bs4.length ≤ bs.length + 1000 * (sz a + sz c + 1) := by
    rw [List.length_append, Lib.strCells_length] at hl4
    have : ({ data := #[32, 45, 62, 32] } : ByteArray).size = 4 := rfl
    omega
  go_wp2
  go_end0
  refine ⟨rfl, bs4, hT4, ?_, hb4, hv4, (hk2.trans hk3).trans hk4⟩
  rw [HB4.out, HB2.out, strCells_app, strCells_app]
  simp
end Go.Proofs.YtnhmjndjclpnlaaGreatDoor

namespace Go.Proofs.YtnhmjndjclpnlaaGreatDoor
open Go.RowKit

theorem PTy.wt {w : World} {vb : List Nat} {t : Ty} {v : Value} (h : PTy w vb t v) : WT vb.length t := by
  induction h with
  | var n b hb => exact .var n (List.getElem?_eq_some_iff.1 hb).1
  | base kd hk => rcases hk with rfl | rfl; exact .int; exact .bool
  | list a b p hb ha ih => exact .list a ih
  | pair a c b p q hb ha hc ih ih2 => exact .pair a c ih ih2
  | fn a c b p q hb ha hc ih ih2 => exact .fn a c ih ih2
theorem sw_var {w0 : World} {B b nb mb : Nat} {vb L : List Nat} (hd : L.Nodup) (hL : L.length ≤ 260) (n c : Nat) (hc : vb[n]? = some c) : SW w0 B b nb mb vb L (.mk { data := #[] } n []) (.iface 200 (.pointer (some ⟨c, 0, none⟩))) := by
  intro w l bs h hk0 hl hp hn
  have hn1 := (List.getElem?_eq_some_iff.1 hc).1
  have hsz : sz (.mk { data := #[] } n []) = 1 := by simp [sz, szs]
  rw [hsz] at hn ⊢
  have e : c = vb.getD n 0 := by simp [List.getD, hc]
  rw [e]
  refine (tw_var h hl n hn1 (Nat.le_trans hp.length_le hL) (by omega)).mono ?_
  rintro e w' ⟨j, rfl, hT, hk, hj⟩
  have hx : shT (cnN L) (.mk { data := #[] } n []) = letM j := (shT_var _ n).trans (cnN_get hp hd hj)
  refine ⟨rfl, _, hT, by rw [hx], ?_, ?_, hk⟩
  · rw [List.length_append, Lib.strCells_length]
    have := letM_size j
    omega
  · intro x hx
    rw [varsM_leaf] at hx
    split at hx
    · exact hl x hx
    · simp at hx
      rcases hx with hx | rfl
      · exact hl x hx
      · exact hn1
theorem sw_base {w0 : World} {B b nb mb : Nat} {vb L : List Nat} (kd : ByteArray) (hk : kd = { data := #[105, 110, 116] } ∨ kd = { data := #[98, 111, 111, 108] }) : SW w0 B b nb mb vb L (.mk kd 0 []) (.iface 286 (.agg #[.string kd])) := by
  intro w l bs h hk0 hl hp hn
  have hsz : sz (.mk kd 0 []) = 1 := by simp [sz, szs]
  have hks : kd.size ≤ 4 := by rcases hk with rfl | rfl <;> decide
  have hx : shT (cnN L) (.mk kd 0 []) = kd := by rcases hk with rfl | rfl; exact shT_int _; exact shT_bool _
  have hv : varsM (.mk kd 0 []) l = l := by rcases hk with rfl | rfl; exact varsM_int l; exact varsM_bool l
  rw [hsz] at hn ⊢
  rw [hx, hv]
  refine (tw_base h hl kd (by omega)).mono ?_
  rintro e w' ⟨rfl, hT, hk⟩
  refine ⟨rfl, _, hT, rfl, ?_, hl, hk⟩
  rw [List.length_append, Lib.strCells_length]
  omega
theorem tw_all {w0 : World} {B b nb mb : Nat} {vb L : List Nat} (h0 : W0 w0 B mb) (hd : L.Nodup) (hL : L.length ≤ 260) {t : Ty} {v : Value} (h : PTy w0 vb t v) : SW w0 B b nb mb vb L t v ∧ SL w0 B b nb mb vb L t v := by
  induction h with
  | var n c hc => exact ⟨sw_var hd hL n c hc, tl_no _ _ _ (fun w => Tryz.taVA _ w) (fun w l bs hT _ => (known_ptr _ c w (Tryz.fVar c w) (hT.vbs c (List.mem_of_getElem? hc)).1.c0).mono (fun e w' ⟨h1, h2⟩ => ⟨h1, by rw [h2]; exact Kp.refl _ _⟩)) (by simp [Ty.kind]) (sw_var hd hL n c hc)⟩
  | base kd hk => exact ⟨sw_base kd hk, tl_no _ _ _ (fun w => Tryz.taBA _ w) (fun w l bs _ _ => known_base _ w) (by rcases hk with rfl | rfl <;> decide) (sw_base kd hk)⟩
  | list a c p hb ha ih =>
    obtain ⟨T, u, rfl⟩ := ha.iface
    have := tw_list h0 a c T u hb ih.1
    exact ⟨this, tl_no _ _ _ (fun w => Tryz.taLA _ w) (fun w l bs _ hk => (known_ptr _ c w (Tryz.fList c w) (by simp [World.cell?, h0.at hk hb])).mono (fun e w' ⟨h1, h2⟩ => ⟨h1, by rw [h2]; exact Kp.refl _ _⟩)) (by simp [Ty.kind]) this⟩
  | pair a c q p p2 hb ha hc ih ih2 =>
    obtain ⟨T, u, rfl⟩ := ha.iface
    obtain ⟨T2, u2, rfl⟩ := hc.iface
    have := tw_pair h0 a c q T u T2 u2 hb (fun l hl => (varsM_pre hc.wt _).trans hl) ih.1 ih2.1
    exact ⟨this, tl_no _ _ _ (fun w => Tryz.taPA _ w) (fun w l bs _ hk => (known_ptr _ q w (Tryz.fPair q w) (by simp [World.cell?, h0.at hk hb])).mono (fun e w' ⟨h1, h2⟩ => ⟨h1, by rw [h2]; exact Kp.refl _ _⟩)) (by simp [Ty.kind]) this⟩
  | fn a c q p p2 hb ha hc ih ih2 =>
    obtain ⟨T, u, rfl⟩ := ha.iface
    obtain ⟨T2, u2, rfl⟩ := hc.iface
    have := tw_fn h0 a c q T u T2 u2 hb (fun l hl => (varsM_pre hc.wt _).trans hl) ih.2 ih2.1
    exact ⟨this, tl_yes _ _ (fun w l bs _ hk => (known_ptr _ q w (Tryz.fArr q w) (by simp [World.cell?, h0.at hk hb])).mono (fun e w' ⟨h1, h2⟩ => ⟨h1, by rw [h2]; exact Kp.refl _ _⟩)) (by simp [Ty.kind]) this⟩
end Go.Proofs.YtnhmjndjclpnlaaGreatDoor
