import Derived.Test.YtleenphlgbklmaaGreatDoorQPRec
set_option linter.unusedVariables false
set_option linter.unusedSimpArgs false
namespace Go.Proofs.YtleenphlgbklmaaGreatDoor
open Go.RowKit

theorem Tryz.info130 : (Tryz.prog.info? 130).map (fun i => (i.zero, i.size, i.bytes)) = some (some .nilIface, 1, 16) := by kernel_rfl
theorem Tryz.bytesX : Tryz.t130.bytes = 16 := by kernel_rfl
theorem addr_add (g j : Nat) : (⟨g, 0, none⟩ : Addr).add j = ⟨g, j, none⟩ := by
  unfold Addr.add
  split <;> simp_all
theorem cut_app (n e t : Nat) (hn : n ≤ 100000) : n ≤ (Question.appendCap n 0 e).cut t ∧ (Question.appendCap n 0 e).cut t ≤ maxLen := by
  have h : (Question.appendCap n 0 e).cut t = n + t % (2 ^ 63 - n) := rfl
  have hlt := Nat.mod_lt t (show 0 < 2 ^ 63 - n by omega)
  rw [h]
  unfold maxLen
  omega
set_option maxRecDepth 20000 in
set_option maxHeartbeats 1000000 in
theorem pgrow_any (n : Nat) (w : World) (h0 : 0 < n) (hn : n ≤ 100000) : Calls Tryz.prog 227 #[.slice none 0 0, .int .i64 n] w fun e w' => ∃ cap, e = .returned (.slice (some ⟨w.heap.size, 0, none⟩) 0 cap) ∧ w'.ownsRow w.heap.size 130 1 (.slice (some ⟨w.heap.size, 0, none⟩) 0 cap) 0 [] ∧ Kp (fun _ => False) w w' := by
  obtain ⟨iX, hiX, hzX0, hzX1, hzX2⟩ := info_parts Tryz.info130
  have hby := Tryz.bytesX
  have hnc : Builtin.nextslicecap n 0 = n := by unfold Builtin.nextslicecap; rw [if_pos (by omega)]
  go_enter Tryz.func227, Tryz.ntmps227
  go_wp2_with fail
  · obtain ⟨c1, c2⟩ := cut_app n 130 (w.tape w.drawn (Question.appendCap n 0 130)) hn
    generalize (Question.appendCap n 0 130).cut (w.tape w.drawn (Question.appendCap n 0 130)) = cap at *
    go_ret
    refine ⟨cap, rfl, ⟨rfl, .inr ⟨w.heap.size, cap, _, rfl, Nat.le_refl _, heap_alloc_new _ _, Nat.zero_le _, c2, ?_, by simp⟩⟩, ((Kp.refl _ _).alloc _).drew⟩
    simp [size_zeroCells]
    omega
set_option maxRecDepth 20000 in
set_option maxHeartbeats 1000000 in
theorem pcat_any (w : World) (ps : List Value) (T : TypeId) (u : Value) (gv cap : Nat) (hv : w.ownsRow 0 130 1 (.slice (some ⟨gv, 0, none⟩) ps.length cap) ps.length ps) (h0 : 0 < ps.length) (hn : ps.length ≤ 1000) (hone : ∀ p, p ∈ ps → p.oneCell' = true) :
    Calls Tryz.prog 211 #[.slice (some ⟨w.heap.size + 1, 0, none⟩) 2 2] ((w.alloc (.cells #[.iface T u] 130)).alloc (.cells #[.slice (some ⟨gv, 0, none⟩) ps.length cap, .slice (some ⟨w.heap.size, 0, none⟩) 1 1] 339)) fun e w' => ∃ g c, e = .returned (.slice (some ⟨g, 0, none⟩) (ps.length + 1) c) ∧ w'.ownsRow w.heap.size 130 1 (.slice (some ⟨g, 0, none⟩) (ps.length + 1) c) (ps.length + 1) (ps ++ [.iface T u]) ∧ Kp (fun _ => False) w w' := by
  obtain ⟨iX, hiX, hzX0, hzX1, hzX2⟩ := info_parts Tryz.info130
  have hk1 : Kp (fun _ => False) w (w.alloc (.cells #[.iface T u] 130)) := (Kp.refl _ _).alloc _
  have hk2 : Kp (fun _ => False) (w.alloc (.cells #[.iface T u] 130)) ((w.alloc (.cells #[.iface T u] 130)).alloc (.cells #[.slice (some ⟨gv, 0, none⟩) ps.length cap, .slice (some ⟨w.heap.size, 0, none⟩) 1 1] 339)) := (Kp.refl _ _).alloc _
  have b1 := hk2.blk (heap_alloc_new w (.cells #[.iface T u] 130)) (fun z => z)
  have b2 : ((w.alloc (.cells #[.iface T u] 130)).alloc (.cells #[.slice (some ⟨gv, 0, none⟩) ps.length cap, .slice (some ⟨w.heap.size, 0, none⟩) 1 1] 339)).heap[w.heap.size + 1]? = some (.cells #[.slice (some ⟨gv, 0, none⟩) ps.length cap, .slice (some ⟨w.heap.size, 0, none⟩) 1 1] 339 (0, 0)) := by
    have := heap_alloc_new (w.alloc (.cells #[.iface T u] 130)) (.cells #[.slice (some ⟨gv, 0, none⟩) ps.length cap, .slice (some ⟨w.heap.size, 0, none⟩) 1 1] 339)
    simpa using this
  have hK := hk1.trans hk2
  clear hk1 hk2
  generalize (w.alloc (.cells #[.iface T u] 130)).alloc (.cells #[.slice (some ⟨gv, 0, none⟩) ps.length cap, .slice (some ⟨w.heap.size, 0, none⟩) 1 1] 339) = W at *
  have b1 : W.heap[w.heap.size]? = some (.cells #[.iface T u] 130 (0, 0)) := b1
  have o0 : W.cell? ⟨w.heap.size + 1, 0, none⟩ = some (.slice (some ⟨gv, 0, none⟩) ps.length cap) := by simp [World.cell?, b2]
  have o1 : W.cell? ⟨w.heap.size + 1, 1, none⟩ = some (.slice (some ⟨w.heap.size, 0, none⟩) 1 1) := by simp [World.cell?, b2]
  have o2 : W.cell? ⟨w.heap.size, 0, none⟩ = some (.iface T u) := by simp [World.cell?, b1]
  have hvc : ∀ (j : Nat) (p : Value), ps[j]? = some p → W.cell? ⟨gv, j, none⟩ = some p := fun j p hj => by
    have := hv.cells (g := gv) rfl j p hj
    rw [addr_add] at this
    exact hK.cell this (fun z => z)
  have HVC : Hid _ := hvc
  have hsz : w.heap.size + 1 < W.heap.size := lt_of_block b2
  clear hvc hv b1 b2
  go_enter Tryz.func211, Tryz.ntmps211
  go_wp2_with fail
  refine wp_loop_rounds 3 ?_
  rw [rounds_succ]
  go_wp2_with fail
  rw [rounds_succ]
  go_wp2_with fail
  have HG : Hid _ := pgrow_any (ps.length + 1) W (by omega) (by omega)
  rw [rounds_succ]
  go_wp2_with fail
  refine Calls.mono HG.out ?_
  rintro e w1 ⟨c1, rfl, hr1, hkg⟩
  have p0 := hkg.cell o0 (fun z => z)
  have p1 := hkg.cell o1 (fun z => z)
  have hs1 := hkg.size
  have hr1 := ownsRow_base hr1 (show w.heap.size ≤ W.heap.size by omega)
  clear HG
  go_wp2_with fail
  refine wp_loop_rounds 3 ?_
  rw [rounds_succ]
  go_wp2_with (at_builtin; refine wpList_append_own2 _ rfl _ _ 339 rfl w.heap.size 130 iX .nilIface 1 16 Tryz.underlying339 hiX hzX0 hzX1 hzX2 rfl (by decide) _ _ _ rfl hr1 ⟨gv, 0, none⟩ ps.length cap ps rfl (by simp) (fun j p hj => by rw [addr_add]; exact hkg.cell (HVC.out j p hj) (fun z => z)) hone (by unfold maxLen; omega) (by omega) (by omega) h0 ?_)
  intro g2 c2 w2 hown2 hgrow2 hfr2
  have hkw : ∀ b, b < W.heap.size → w2.heap[b]? = W.heap[b]? := fun b hb => (hgrow2.block b (by omega) (fun z => by have z : some b = some W.heap.size := z; simp at z; omega)).trans (hkg.block b hb (fun z => z))
  have hcw : ∀ (a : Addr) (p : Value), W.cell? a = some p → w2.cell? a = some p := fun a p h => (World.cell?_of_block (hkw a.block (World.block_lt_of_cell? _ _ h))).trans h
  have r1 := hcw _ _ o1
  have r2 := hcw _ _ o2
  have hown2 : w2.ownsRow w.heap.size 130 1 (.slice (some ⟨g2, 0, none⟩) ps.length c2) ps.length ps := by simpa using hown2
  have hs2 : w1.heap.size ≤ w2.heap.size := hgrow2.size
  have hos2 : w2.os = W.os ∧ w2.tape = W.tape ∧ w2.output = W.output := ⟨hgrow2.os.trans hkg.os, hgrow2.tape.trans hkg.tape, hgrow2.output.trans hkg.output⟩
  clear hgrow2 hfr2 hcw p0 p1 o0 o1 hr1 hone
  go_wp2_with fail
  rw [rounds_succ]
  go_wp2_with (at_builtin; refine wpList_append_own2 _ rfl _ _ 339 rfl w.heap.size 130 iX .nilIface 1 16 Tryz.underlying339 hiX hzX0 hzX1 hzX2 rfl (by decide) _ _ _ rfl hown2 ⟨w.heap.size, 0, none⟩ 1 1 [.iface T u] rfl rfl (fun q u hq => by match q, hq with | 0, hq => simp at hq; subst hq; rw [addr_add]; exact r2) (fun u hu => by simp at hu; subst hu; rfl) (by unfold maxLen; omega) (by omega) (by omega) (by decide) ?_)
  intro g3 c3 w3 hown3 hgrow3 hfr3
  have hFK : Kp (fun _ => False) w w3 := ⟨hgrow3.os.trans (hos2.1.trans hK.os), hgrow3.tape.trans (hos2.2.1.trans hK.tape), hgrow3.output.trans (hos2.2.2.trans hK.output), Nat.le_trans hK.size (by have := hgrow3.size; omega), fun b hb _ => ((hgrow3.block b (by omega) (fun z => by have := (row_own hown2 z.symm).1; omega)).trans (hkw b (by omega))).trans (hK.block b hb (fun z => z))⟩
  have HF : Hid _ := hFK
  have HO : Hid _ := hown3
  clear hgrow3 hfr3 hown2 hown3 hkw hFK
  go_wp2_with fail
  rw [rounds_succ]
  go_wp2
  go_ret
  exact ⟨g3, c3, rfl, HO.out, HF.out⟩
end Go.Proofs.YtleenphlgbklmaaGreatDoor
