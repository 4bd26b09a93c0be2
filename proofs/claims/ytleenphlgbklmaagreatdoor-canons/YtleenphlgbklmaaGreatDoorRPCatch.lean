import Derived.Test.YtleenphlgbklmaaGreatDoorRPKnown
import Derived.Test.YtleenphlgbklmaaGreatDoorRPNum
import Derived.Test.YtleenphlgbklmaaGreatDoorRPKq
import Derived.Defers
import Derived.Recover
set_option linter.unusedVariables false
set_option linter.unusedSimpArgs false
namespace Go.Proofs.YtleenphlgbklmaaGreatDoor
open Go.RowKit
theorem VM.vblk {w : World} {mb : Nat} {names : List ByteArray} {vb : List Nat} (h : VM w mb names vb) : ∀ c, c ∈ vb → VBlk w c := by
  intro c hc
  obtain ⟨j, hj, rfl⟩ := List.getElem_of_mem hc
  have := h.vr j (h.len ▸ hj)
  have e : vb.getD j 0 = vb[j] := by simp [List.getD, hj]
  rw [e] at this
  exact ⟨_, this⟩
/-- the variables' blocks, with their names. -/
def NB (w : World) (vb : List Nat) (names : List ByteArray) : Prop := vb.length = names.length ∧ ∀ j, j < names.length → w.heap[vb.getD j 0]? = some (.cells #[.nilIface, .string (names.getD j { data := #[] }), .bool false] 221 (0, 0))
theorem VM.nodup {w : World} {mb : Nat} {names : List ByteArray} {vb : List Nat} (h : VM w mb names vb) (hn : names.Nodup) : vb.Nodup := by
  refine List.pairwise_iff_getElem.2 ?_
  intro i j hi hj hij e
  have h1 := h.vr i (h.len ▸ hi)
  have h2 := h.vr j (h.len ▸ hj)
  have e1 : vb.getD i 0 = vb[i] := by simp [List.getD, hi]
  have e2 : vb.getD j 0 = vb[j] := by simp [List.getD, hj]
  rw [e1, e] at h1
  have hi' : i < names.length := h.len ▸ hi
  have hj' : j < names.length := h.len ▸ hj
  have g1 : names.getD i { data := #[] } = names[i] := by simp [List.getD, hi']
  have g2 : names.getD j { data := #[] } = names[j] := by simp [List.getD, hj']
  rw [e2] at h2
  rw [h2, g1, g2] at h1
  simp at h1
  exact (List.pairwise_iff_getElem.1 hn) i j hi' hj' hij h1.symm
end Go.Proofs.YtleenphlgbklmaaGreatDoor

namespace Go.Proofs.YtleenphlgbklmaaGreatDoor
open Go.RowKit

set_option maxRecDepth 20000 in
set_option maxHeartbeats 1000000 in
theorem pnum_old (w : World) (nb mb b : Nat) (l : List Nat) (hc0 : w.cell? ⟨nb, 0, none⟩ = some (.map (some mb))) (h : NM w mb l) (hb : VBk w b) (j : Nat) (hj : l.findIdx? (fun x => b == x) = some j) (hlt : j < 260) :
    Calls Tryz.prog 113 #[.pointer (some ⟨b, 0, none⟩), .pointer (some ⟨nb, 0, none⟩)] w fun e w' => e = .returned (.string (letM j)) ∧ w' = w := by
  have hl := run_nlook w mb b l h hb
  rw [hj] at hl
  simp only at hl
  have HN : Hid _ := pnbn_small j hlt w
  clear h hj hb
  go_enter Tryz.func113, Tryz.ntmps113
  go_wp2_with (go_at_call 114; refine Calls.mono HN.out ?_; rintro e w' ⟨rfl, hww⟩; rw [hww]; clear hww w')
  go_ret
  exact ⟨rfl, rfl⟩
theorem NM.put {w : World} {mb b : Nat} {l : List Nat} (h : NM w mb l) (hb : VBk w b) : NM (mapSet w mb (.map (nFrom (l ++ [b]) 0).toArray (l.length + 1))) mb (l ++ [b]) := by
  have ho : ∀ c, VBk w c → VBk (mapSet w mb (.map (nFrom (l ++ [b]) 0).toArray (l.length + 1))) c := fun c ⟨s, hc⟩ => ⟨s, by
    rw [mapSet_other _ _ _ _ (fun z => by rw [z, h.mp] at hc; cases hc)]
    exact hc⟩
  refine ⟨?_, ?_⟩
  · rw [mapSet_same _ _ _ (lt_of_block h.mp)]
    simp
  · intro c hc
    simp at hc
    rcases hc with hc | rfl
    · exact ho c (h.vr c hc)
    · exact ho c hb
set_option maxRecDepth 20000 in
set_option maxHeartbeats 1000000 in
theorem pnum_new (w : World) (nb mb b : Nat) (l : List Nat) (hc0 : w.cell? ⟨nb, 0, none⟩ = some (.map (some mb))) (h : NM w mb l) (hb : VBk w b) (hj : l.findIdx? (fun x => b == x) = none) (hlt : l.length < 260) :
    Calls Tryz.prog 113 #[.pointer (some ⟨b, 0, none⟩), .pointer (some ⟨nb, 0, none⟩)] w fun e w' => e = .returned (.string (letM l.length)) ∧ NM w' mb (l ++ [b]) ∧ Kp (· = mb) w w' := by
  have hl := run_nlook w mb b l h hb
  rw [hj] at hl
  simp only at hl
  have hu := run_nput w mb b l h hb hj
  have hm := h.mp
  have hn : (nFrom l 0).toArray.size = l.length := by simp [nFrom_length]
  have hlen : (Builtin.len_ #[215] 3 #[.map (some mb)]).run Tryz.prog w = .ok (.int .i64 (l.length : Int)) w := by
    simp [Builtin.len_, run_underlying Tryz.underlying215, MapKept.run_getObj_map hm, Result.andThen, nFrom_length, goInt]
  have HP : Hid _ := h.put hb
  have HK : Hid _ := mapSet_kp w mb (.map (nFrom (l ++ [b]) 0).toArray (l.length + 1))
  have HN : Hid _ := pnbn_small l.length hlt (mapSet w mb (.map (nFrom (l ++ [b]) 0).toArray (l.length + 1)))
  clear h hj hb hm hn
  go_enter Tryz.func113, Tryz.ntmps113
  go_wp2_with (go_at_call 114; refine Calls.mono HN.out ?_; rintro e w' ⟨rfl, hww⟩; rw [hww]; clear hww w')
  go_ret
  exact ⟨rfl, HP.out, HK.out⟩
end Go.Proofs.YtleenphlgbklmaaGreatDoor

namespace Go.Proofs.YtleenphlgbklmaaGreatDoor
open Go.RowKit
theorem Tryz.mkN (w : World) : (Instr.makeMap 215 none).run Tryz.prog w = .ok (.map (some w.heap.size)) (w.alloc (.map #[] 0)) := by kernel_rfl
set_option maxRecDepth 20000 in
theorem pnio_any (w : World) : Calls Tryz.prog 82 #[] w fun e w' => ∃ nb mb, e = .returned (.func (.func 113) #[] #[.pointer (some ⟨nb, 0, none⟩)]) ∧ w'.heap[nb]? = some (.cells #[.map (some mb)] 215 (0, 0)) ∧ NM w' mb [] ∧ Kp (fun _ => False) w w' ∧ w.heap.size ≤ mb := by
  have m1 := Tryz.mkN w
  go_enter Tryz.func82, Tryz.ntmps82
  go_wp2
  go_ret
  have hk1 : Kp (fun _ => False) (w.alloc (.map #[] 0)) ((w.alloc (.map #[] 0)).alloc (.cells #[.map (some w.heap.size)] 215)) := (Kp.refl _ _).alloc _
  refine ⟨w.heap.size + 1, w.heap.size, rfl, ?_, ⟨hk1.blk (heap_alloc_new _ _) (fun z => z), by simp⟩, ((Kp.refl _ w).alloc _).trans hk1, Nat.le_refl _⟩
  have := heap_alloc_new (w.alloc (.map #[] 0)) (.cells #[.map (some w.heap.size)] 215)
  simpa using this
end Go.Proofs.YtleenphlgbklmaaGreatDoor

namespace Go.Proofs.YtleenphlgbklmaaGreatDoor
open Go.RowKit

theorem Tryz.taRef (v : Value) (w : World) : (Instr.typeAssert (.iface 250 (.agg #[v])) 20 250 true).run Tryz.prog w = .ok (.tuple #[.agg #[v], .bool true]) w := by kernel_rfl
set_option maxRecDepth 20000 in
theorem prefused_any (T : TypeId) (u : Value) (w : World) : Calls Tryz.prog 95 #[.iface 250 (.agg #[.iface T u])] w fun e w' => e = .returned (.iface T u) ∧ w' = w.alloc (.cells #[.iface T u] 250) := by
  have hta := Tryz.taRef (.iface T u) w
  go_enter Tryz.func95, Tryz.ntmps95
  go_wp2
  go_ret
  exact ⟨rfl, rfl⟩
set_option maxRecDepth 20000 in
theorem catchT_idle (p q : Addr) (w : World) :
    CallsD Tryz.prog 108 #[.pointer (some p), .pointer (some q)] .returning w fun e u' w' => e = .returned (.tuple #[]) ∧ u' = .returning ∧ w' = w := by
  refine callsD_of_wpS Tryz.func108 rfl fun c₀ cs hu => ?_
  apply wpS_seq
  apply wpS_region
  simp [wpOpsS, go_sem, recoverD, hu, Tryz.ntmps108, Exit.thenS]
  refine wpS_of_wp ?_
  show Code.wp _ _ _ ⟨#[.pointer (some p), .pointer (some q), .nilIface, .nilIface, undef, undef, undef, undef], []⟩ w
  go_wp2
  cases c₀
  simp_all [bodyPostS, results, Tryz.results108]
set_option maxRecDepth 20000 in
theorem catchT_panicking (p q : Addr) (x y : Value) (T : TypeId) (z : Value) (older : List PanicEntry) (w : World) (hp : w.cell? p = some x) (hpf : w.frozen? p = false) (hq : w.cell? q = some y) (hqf : w.frozen? q = false) (hpq : p ≠ q) :
    CallsD Tryz.prog 108 #[.pointer (some p), .pointer (some q)] (.panicking ({ v := .iface 250 (.agg #[.iface T z]), recovered := false } :: older)) w fun e u' w' =>
      e = .returned (.tuple #[]) ∧ u' = .panicking ({ v := .iface 250 (.agg #[.iface T z]), recovered := true } :: older) ∧ w' = ((w.alloc (.cells #[.iface T z] 250)).setCell p .nilIface).setCell q (.iface T z) := by
  refine callsD_of_wpS Tryz.func108 rfl fun c₀ cs hu => ?_
  apply wpS_seq
  apply wpS_region
  simp [wpOpsS, go_sem, recoverD, hu, Tryz.ntmps108, Exit.thenS]
  refine wpS_of_wp ?_
  show Code.wp _ _ _ ⟨#[.pointer (some p), .pointer (some q), .iface 250 (.agg #[.iface T z]), .iface 250 (.agg #[.iface T z]), undef, undef, undef, undef], []⟩ w
  have hpl := World.block_lt_of_cell? _ _ hp
  have hql := World.block_lt_of_cell? _ _ hq
  have bp := Below.heap_alloc w (.cells #[.iface T z] 250) p.block hpl
  have bq := Below.heap_alloc w (.cells #[.iface T z] 250) q.block hql
  have hp1 := (World.cell?_of_block (a := p) bp).trans hp
  have hpf1 := (World.frozen?_of_block (a := p) bp).trans hpf
  have hq1 := (World.cell?_of_block (a := q) bq).trans hq
  have hqf1 := (World.frozen?_of_block (a := q) bq).trans hqf
  have hq2 : ((w.alloc (.cells #[.iface T z] 250)).setCell p .nilIface).cell? q = some y := (World.cell?_setCell_other _ _ _ _ hpq).trans hq1
  have hqf2 : ((w.alloc (.cells #[.iface T z] 250)).setCell p .nilIface).frozen? q = false := (World.frozen?_setCell _ _ _ _).trans hqf1
  have HR : Hid _ := prefused_any T z w
  go_wp2_with (go_at_call 95; refine Calls.mono HR.out ?_; rintro e w' ⟨rfl, hww⟩; rw [hww]; clear hww w')
  simp [bodyPostS, results, Tryz.results108]
set_option maxRecDepth 20000 in
theorem catchE_idle (p q : Addr) (w : World) :
    CallsD Tryz.prog 94 #[.pointer (some p), .pointer (some q)] .returning w fun e u' w' => e = .returned (.tuple #[]) ∧ u' = .returning ∧ w' = w := by
  refine callsD_of_wpS Tryz.func94 rfl fun c₀ cs hu => ?_
  apply wpS_seq
  apply wpS_region
  simp [wpOpsS, go_sem, recoverD, hu, Tryz.ntmps94, Exit.thenS]
  refine wpS_of_wp ?_
  show Code.wp _ _ _ ⟨#[.pointer (some p), .pointer (some q), .nilIface, .nilIface, undef, undef, undef, undef], []⟩ w
  go_wp2
  cases c₀
  simp_all [bodyPostS, results, Tryz.results94]
set_option maxRecDepth 20000 in
theorem catchE_panicking (p q : Addr) (x y : Value) (T : TypeId) (z : Value) (older : List PanicEntry) (w : World) (hp : w.cell? p = some x) (hpf : w.frozen? p = false) (hq : w.cell? q = some y) (hqf : w.frozen? q = false) (hpq : p ≠ q) :
    CallsD Tryz.prog 94 #[.pointer (some p), .pointer (some q)] (.panicking ({ v := .iface 250 (.agg #[.iface T z]), recovered := false } :: older)) w fun e u' w' =>
      e = .returned (.tuple #[]) ∧ u' = .panicking ({ v := .iface 250 (.agg #[.iface T z]), recovered := true } :: older) ∧ w' = ((w.alloc (.cells #[.iface T z] 250)).setCell p .nilIface).setCell q (.iface T z) := by
  refine callsD_of_wpS Tryz.func94 rfl fun c₀ cs hu => ?_
  apply wpS_seq
  apply wpS_region
  simp [wpOpsS, go_sem, recoverD, hu, Tryz.ntmps94, Exit.thenS]
  refine wpS_of_wp ?_
  show Code.wp _ _ _ ⟨#[.pointer (some p), .pointer (some q), .iface 250 (.agg #[.iface T z]), .iface 250 (.agg #[.iface T z]), undef, undef, undef, undef], []⟩ w
  have hpl := World.block_lt_of_cell? _ _ hp
  have hql := World.block_lt_of_cell? _ _ hq
  have bp := Below.heap_alloc w (.cells #[.iface T z] 250) p.block hpl
  have bq := Below.heap_alloc w (.cells #[.iface T z] 250) q.block hql
  have hp1 := (World.cell?_of_block (a := p) bp).trans hp
  have hpf1 := (World.frozen?_of_block (a := p) bp).trans hpf
  have hq1 := (World.cell?_of_block (a := q) bq).trans hq
  have hqf1 := (World.frozen?_of_block (a := q) bq).trans hqf
  have hq2 : ((w.alloc (.cells #[.iface T z] 250)).setCell p .nilIface).cell? q = some y := (World.cell?_setCell_other _ _ _ _ hpq).trans hq1
  have hqf2 : ((w.alloc (.cells #[.iface T z] 250)).setCell p .nilIface).frozen? q = false := (World.frozen?_setCell _ _ _ _).trans hqf1
  have HR : Hid _ := prefused_any T z w
  go_wp2_with (go_at_call 95; refine Calls.mono HR.out ?_; rintro e w' ⟨rfl, hww⟩; rw [hww]; clear hww w')
  simp [bodyPostS, results, Tryz.results94]
end Go.Proofs.YtleenphlgbklmaaGreatDoor
