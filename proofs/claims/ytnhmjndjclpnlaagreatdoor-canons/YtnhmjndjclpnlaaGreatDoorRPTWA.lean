import Derived.Test.YtnhmjndjclpnlaaGreatDoorRPNum
import Derived.Test.YtnhmjndjclpnlaaGreatDoorRPCan
import Derived.Test.YtnhmjndjclpnlaaGreatDoorRPBld
import Derived.Test.YtnhmjndjclpnlaaGreatDoorRPTy
import Derived.Test.YtnhmjndjclpnlaaGreatDoorRWShown
set_option linter.unusedVariables false
set_option linter.unusedSimpArgs false
namespace Go.Proofs.YtnhmjndjclpnlaaGreatDoor
open Go.RowKit

set_option maxRecDepth 20000 in
set_option maxHeartbeats 1000000 in
theorem pnum_old (w : World) (nb mb b : Nat) (l : List Nat) (hc0 : w.cell? ⟨nb, 0, none⟩ = some (.map (some mb))) (h : NM w mb l) (hb : VBlk w b) (j : Nat) (hj : l.findIdx? (fun x => b == x) = some j) (hlt : j < 260) :
    Calls Tryz.prog 103 #[.pointer (some ⟨b, 0, none⟩), .pointer (some ⟨nb, 0, none⟩)] w fun e w' => e = .returned (.string (letM j)) ∧ w' = w := by
  have hl := run_nlook w mb b l h hb
  rw [hj] at hl
  simp only at hl
  have HN : Hid _ := pnbn_small j hlt w
  clear h hj hb
  go_enter Tryz.func103, Tryz.ntmps103
  go_wp2_with (go_at_call 104; refine Calls.mono HN.out ?_; rintro e w' ⟨rfl, hww⟩; rw [hww]; clear hww w')
  go_ret
  exact ⟨rfl, rfl⟩
theorem NM.put {w : World} {mb b : Nat} {l : List Nat} (h : NM w mb l) (hb : VBlk w b) : NM (mapSet w mb (.map (nFrom (l ++ [b]) 0).toArray (l.length + 1))) mb (l ++ [b]) := by
  have ho : ∀ c, VBlk w c → VBlk (mapSet w mb (.map (nFrom (l ++ [b]) 0).toArray (l.length + 1))) c := fun c ⟨s, hc⟩ => ⟨s, by
    rw [mapSet_other _ _ _ _ (fun z => by rw [z, h.mp] at hc; cases hc)]
    exact hc⟩
  refine ⟨?_, ?_⟩
  · rw [mapSet_same _ _ _ (lt_of_block h.mp)]
    simp
  · intro c hc
    simp at hc
    rcases hc with hc | rfl
    · exact ho c (h.vr c hc)
    · exact ho c hb
set_option maxRecDepth 20000 in
set_option maxHeartbeats 1000000 in
theorem pnum_new (w : World) (nb mb b : Nat) (l : List Nat) (hc0 : w.cell? ⟨nb, 0, none⟩ = some (.map (some mb))) (h : NM w mb l) (hb : VBlk w b) (hj : l.findIdx? (fun x => b == x) = none) (hlt : l.length < 260) :
    Calls Tryz.prog 103 #[.pointer (some ⟨b, 0, none⟩), .pointer (some ⟨nb, 0, none⟩)] w fun e w' => e = .returned (.string (letM l.length)) ∧ NM w' mb (l ++ [b]) ∧ Kp (· = mb) w w' := by
  have hl := run_nlook w mb b l h hb
  rw [hj] at hl
  simp only at hl
  have hu := run_nput w mb b l h hb hj
  have hm := h.mp
  have hn : (nFrom l 0).toArray.size = l.length := by simp [nFrom_length]
  have hlen : (Builtin.len_ #[199] 3 #[.map (some mb)]).run Tryz.prog w = .ok (.int .i64 (l.length : Int)) w := by
    simp [Builtin.len_, run_underlying Tryz.underlying199, MapKept.run_getObj_map hm, Result.andThen, nFrom_length, goInt]
  have HP : Hid _ := h.put hb
  have HK : Hid _ := mapSet_kp w mb (.map (nFrom (l ++ [b]) 0).toArray (l.length + 1))
  have HN : Hid _ := pnbn_small l.length hlt (mapSet w mb (.map (nFrom (l ++ [b]) 0).toArray (l.length + 1)))
  clear h hj hb hm hn
  go_enter Tryz.func103, Tryz.ntmps103
  go_wp2_with (go_at_call 104; refine Calls.mono HN.out ?_; rintro e w' ⟨rfl, hww⟩; rw [hww]; clear hww w')
  go_ret
  exact ⟨rfl, HP.out, HK.out⟩
end Go.Proofs.YtnhmjndjclpnlaaGreatDoor

namespace Go.Proofs.YtnhmjndjclpnlaaGreatDoor
open Go.RowKit

theorem cnN_get {l L : List Nat} (hp : l <+: L) (hd : L.Nodup) {j n : Nat} (h : l[j]? = some n) : (cnN L).getD n { data := #[] } = letM j := by
  have hj : j < l.length := (List.getElem?_eq_some_iff.1 h).1
  have hL : L[j]? = some n := by
    obtain ⟨r, rfl⟩ := hp
    rw [List.getElem?_append_left hj]
    exact h
  have hjL := (List.getElem?_eq_some_iff.1 hL).1
  have := cnA_get L (mxL L) hd (fun x hx => mxL_mem hx) L.length (Nat.le_refl _) j hjL
  have e : L.getD j 0 = n := by simp [List.getD, hL]
  rw [e] at this
  exact this
theorem idx_map (f : Nat → Nat) (n : Nat) (l : List Nat) (hf : ∀ x, x ∈ l → f n = f x → n = x) : (l.map f).findIdx? (fun x => f n == x) = l.findIdx? (fun x => n == x) := by
  induction l with
  | nil => rfl
  | cons a l ih =>
    have hi := ih (fun x hx => hf x (by simp [hx]))
    have e : (f n == f a) = (n == a) := by
      rw [Bool.eq_iff_iff, beq_iff_eq, beq_iff_eq]
      exact ⟨fun z => hf a List.mem_cons_self z, fun z => by rw [z]⟩
    simp only [List.map_cons, List.findIdx?_cons, hi, e]
/-- the writer of types, with the numbers of its variables. -/
structure TW (w : World) (B b nb mb : Nat) (vb l : List Nat) (bs : List Value) : Prop where
  bw : BW 197 w B b (.func (.func 103) #[] #[.pointer (some ⟨nb, 0, none⟩)]) bs
  nbc : w.heap[nb]? = some (.cells #[.map (some mb)] 199 (0, 0))
  nbB : nb < B
  mbB : mb < B
  nm : NM w mb (l.map fun n => vb.getD n 0)
  vbs : ∀ c, c ∈ vb → VBlk w c ∧ c < B
  inj : vb.Nodup
theorem VBlk.kp {S : Nat → Prop} {w w' : World} {c : Nat} (h : VBlk w c) (k : Kp S w w') (hn : ¬ S c) : VBlk w' c := by
  obtain ⟨s, hs⟩ := h
  exact ⟨s, k.blk hs hn⟩
theorem TW.write {w w' : World} {B b nb mb : Nat} {vb l : List Nat} {bs bs' : List Value} (h : TW w B b nb mb vb l bs) (k : Kp (fun q => B ≤ q) w w') (hl : ∀ n, n ∈ l → n < vb.length) (hb : BW 197 w' B b (.func (.func 103) #[] #[.pointer (some ⟨nb, 0, none⟩)]) bs') : TW w' B b nb mb vb l bs' := by
  have hv : ∀ c, c ∈ vb → VBlk w' c ∧ c < B := fun c hc => ⟨(h.vbs c hc).1.kp k (by have := (h.vbs c hc).2; omega), (h.vbs c hc).2⟩
  refine ⟨hb, k.blk h.nbc (by have := h.nbB; omega), h.nbB, h.mbB, ⟨k.blk h.nm.mp (by have := h.mbB; omega), ?_⟩, hv, h.inj⟩
  intro c hc
  obtain ⟨n, hn, rfl⟩ := List.mem_map.1 hc
  have := hl n hn
  refine (hv _ ?_).1
  simp [List.getD, this]
theorem row_kp {S : Nat → Prop} {w w' : World} {B : Nat} {e : TypeId} {z : Nat} {v : Value} {n : Nat} {xs : List Value} (h : w.ownsRow B e z v n xs) (k : Kp S w w') (hS : ∀ q, S q → q < B) : w'.ownsRow B e z v n xs := by
  refine ⟨h.1, ?_⟩
  rcases h.2 with h2 | ⟨g, cap, cur, rfl, hgB, hg, hr⟩
  · exact .inl h2
  · exact .inr ⟨g, cap, cur, rfl, hgB, k.blk hg (fun s => by have := hS g s; omega), hr⟩
theorem BW.kp {S : Nat → Prop} {H : TypeId} {w w' : World} {B b : Nat} {x : Value} {bs : List Value} (h : BW H w B b x bs) (k : Kp S w w') (hS : ∀ q, S q → q < B) : BW H w' B b x bs := by
  obtain ⟨hB, p, v, hp, hb, ho, hne⟩ := h
  exact ⟨hB, p, v, hp, k.blk hb (fun s => by have := hS b s; omega), row_kp ho k hS, hne⟩
end Go.Proofs.YtnhmjndjclpnlaaGreatDoor

namespace Go.Proofs.YtnhmjndjclpnlaaGreatDoor
open Go.RowKit

theorem Tryz.taBB (v : Value) (w : World) : (Instr.typeAssert (.iface 286 (.agg #[v])) 140 286 true).run Tryz.prog w = .ok (.tuple #[.agg #[v], .bool true]) w := by kernel_rfl
theorem Tryz.taVB (v : Value) (w : World) : (Instr.typeAssert (.iface 200 v) 140 286 true).run Tryz.prog w = .ok (.tuple #[.agg #[.string { data := #[] }], .bool false]) w := by kernel_rfl
theorem Tryz.taLB (v : Value) (w : World) : (Instr.typeAssert (.iface 206 v) 140 286 true).run Tryz.prog w = .ok (.tuple #[.agg #[.string { data := #[] }], .bool false]) w := by kernel_rfl
theorem Tryz.taPB (v : Value) (w : World) : (Instr.typeAssert (.iface 210 v) 140 286 true).run Tryz.prog w = .ok (.tuple #[.agg #[.string { data := #[] }], .bool false]) w := by kernel_rfl
theorem Tryz.taAB (v : Value) (w : World) : (Instr.typeAssert (.iface 214 v) 140 286 true).run Tryz.prog w = .ok (.tuple #[.agg #[.string { data := #[] }], .bool false]) w := by kernel_rfl
theorem Tryz.taVV (v : Value) (w : World) : (Instr.typeAssert (.iface 200 v) 140 200 true).run Tryz.prog w = .ok (.tuple #[v, .bool true]) w := by kernel_rfl
theorem Tryz.taVL (v : Value) (w : World) : (Instr.typeAssert (.iface 200 v) 140 206 true).run Tryz.prog w = .ok (.tuple #[.pointer none, .bool false]) w := by kernel_rfl
theorem Tryz.taVP (v : Value) (w : World) : (Instr.typeAssert (.iface 200 v) 140 210 true).run Tryz.prog w = .ok (.tuple #[.pointer none, .bool false]) w := by kernel_rfl
theorem Tryz.taVA (v : Value) (w : World) : (Instr.typeAssert (.iface 200 v) 140 214 true).run Tryz.prog w = .ok (.tuple #[.pointer none, .bool false]) w := by kernel_rfl
theorem Tryz.taLV (v : Value) (w : World) : (Instr.typeAssert (.iface 206 v) 140 200 true).run Tryz.prog w = .ok (.tuple #[.pointer none, .bool false]) w := by kernel_rfl
theorem Tryz.taLL (v : Value) (w : World) : (Instr.typeAssert (.iface 206 v) 140 206 true).run Tryz.prog w = .ok (.tuple #[v, .bool true]) w := by kernel_rfl
theorem Tryz.taLP (v : Value) (w : World) : (Instr.typeAssert (.iface 206 v) 140 210 true).run Tryz.prog w = .ok (.tuple #[.pointer none, .bool false]) w := by kernel_rfl
theorem Tryz.taLA (v : Value) (w : World) : (Instr.typeAssert (.iface 206 v) 140 214 true).run Tryz.prog w = .ok (.tuple #[.pointer none, .bool false]) w := by kernel_rfl
theorem Tryz.taPV (v : Value) (w : World) : (Instr.typeAssert (.iface 210 v) 140 200 true).run Tryz.prog w = .ok (.tuple #[.pointer none, .bool false]) w := by kernel_rfl
theorem Tryz.taPL (v : Value) (w : World) : (Instr.typeAssert (.iface 210 v) 140 206 true).run Tryz.prog w = .ok (.tuple #[.pointer none, .bool false]) w := by kernel_rfl
theorem Tryz.taPP (v : Value) (w : World) : (Instr.typeAssert (.iface 210 v) 140 210 true).run Tryz.prog w = .ok (.tuple #[v, .bool true]) w := by kernel_rfl
theorem Tryz.taPA (v : Value) (w : World) : (Instr.typeAssert (.iface 210 v) 140 214 true).run Tryz.prog w = .ok (.tuple #[.pointer none, .bool false]) w := by kernel_rfl
theorem Tryz.taAV (v : Value) (w : World) : (Instr.typeAssert (.iface 214 v) 140 200 true).run Tryz.prog w = .ok (.tuple #[.pointer none, .bool false]) w := by kernel_rfl
theorem Tryz.taAL (v : Value) (w : World) : (Instr.typeAssert (.iface 214 v) 140 206 true).run Tryz.prog w = .ok (.tuple #[.pointer none, .bool false]) w := by kernel_rfl
theorem Tryz.taAP (v : Value) (w : World) : (Instr.typeAssert (.iface 214 v) 140 210 true).run Tryz.prog w = .ok (.tuple #[.pointer none, .bool false]) w := by kernel_rfl
theorem Tryz.taAA (v : Value) (w : World) : (Instr.typeAssert (.iface 214 v) 140 214 true).run Tryz.prog w = .ok (.tuple #[v, .bool true]) w := by kernel_rfl
theorem Tryz.taBA (v : Value) (w : World) : (Instr.typeAssert (.iface 286 v) 140 214 true).run Tryz.prog w = .ok (.tuple #[.pointer none, .bool false]) w := by kernel_rfl
/-- where the writer's memory may change: its own, and the map of numbers. -/
def TS (B mb : Nat) (q : Nat) : Prop := B ≤ q ∨ q = mb
theorem TW.bwrite {w : World} {B b nb mb : Nat} {vb l : List Nat} {bs : List Value} (h : TW w B b nb mb vb l bs) (hl : ∀ n, n ∈ l → n < vb.length) (s : ByteArray) (hn : bs.length + s.size ≤ 1000000000) :
    Calls Tryz.prog 136 #[.pointer (some ⟨b, 0, none⟩), .string s] w fun e w' => e = .returned (.tuple #[.int .i64 s.size, .nilIface]) ∧ TW w' B b nb mb vb l (bs ++ Lib.strCells s) ∧ Kp (TS B mb) w w' := by
  refine (bws_any 197 Tryz.liesTW (by decide) B b _ bs s w h.bw hn).mono ?_
  rintro e w' ⟨rfl, hb, hk⟩
  exact ⟨rfl, h.write hk hl hb, hk.mono (fun q _ hq => .inl hq)⟩
end Go.Proofs.YtnhmjndjclpnlaaGreatDoor
