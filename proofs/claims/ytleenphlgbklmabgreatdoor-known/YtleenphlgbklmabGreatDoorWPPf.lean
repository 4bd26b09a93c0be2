import Derived.Test.YtleenphlgbklmabGreatDoorWPMq
set_option linter.unusedVariables false
set_option linter.unusedSimpArgs false
namespace Go.Proofs.YtleenphlgbklmabGreatDoor
open Go.RowKit

set_option maxRecDepth 20000 in
set_option maxHeartbeats 4000000 in
theorem pl_infer {w : World} {kv : List (ByteArray × ByteArray)} {nv tv : Value} {s t ss : ByteArray} {fl : Int} {what loc : Int} (hn : RowS w nv (kv.map Prod.fst)) (ht : RowS w tv (kv.map Prod.snd)) (hd : (kv.map Prod.fst).Nodup) (hl : kv.length ≤ 1000)
    (HI : ∀ W em, Kept w W → SM W em kv → Calls Tryz.prog 30 #[.string s, .map (some em), .int .i64 fl] W fun e w' => Kept W w' ∧ ∃ er, e = .returned (.tuple #[.string t, er]) ∧ (er = .nilIface ∨ ∃ T u, er = .iface T u) ∧ ∀ w2, Kept w' w2 → Calls Tryz.prog 22 #[er] w2 fun e w'' => e = .returned (faultVal what loc ss) ∧ Kept w2 w'') :
    Calls Tryz.prog 20 #[.string s, nv, tv, .int .i64 fl] w fun e w' => e = .returned (.tuple #[.string t, faultVal what loc ss, .bool false]) ∧ Kept w w' := by
  have hk0 : Kept w (w.alloc (.cells #[.int .i64 0, .int .i64 0, .string { data := #[] }, .int .i64 0, .int .i64 0] 23)) := Kept.alloc _ _
  have hb0 := heap_alloc_new w (.cells #[.int .i64 0, .int .i64 0, .string { data := #[] }, .int .i64 0, .int .i64 0] 23)
  have HI' : Hid _ := HI
  have HD : Hid _ := hd
  have hn' := hn
  have ht' := ht
  obtain ⟨ao, cap, g, rfl, _⟩ := hn
  obtain ⟨ao2, cap2, g2, rfl, _⟩ := ht
  simp only [List.length_map] at hn' ht' ⊢
  have HN : Hid _ := hn'
  have HT : Hid _ := ht'
  clear HI hd hn' ht'
  go_enter Tryz.func20, Tryz.ntmps20
  go_wp2_with fail
  generalize w.alloc (.cells #[.int .i64 0, .int .i64 0, .string { data := #[] }, .int .i64 0, .int .i64 0] 23) = W at *
  refine Calls.mono (env_sx (RowS.kept HN.out hk0) (RowS.kept HT.out hk0) HD.out hl) ?_
  rintro e w1 ⟨m1, rfl, hs1, hk1, _⟩
  have hkw1 := hk0.trans hk1
  have hb1 := hk1.blk hb0
  have HS1 : Hid _ := hs1
  have HK1 : Hid _ := hkw1
  have HB1 : Hid _ := hb1
  have HC : Hid _ := HI'.out w1 m1 hkw1 hs1
  clear hs1 hk1 hkw1 hb1 hb0 hk0 HI'
  go_wp2_with fail
  refine Calls.mono HC.out ?_
  rintro e w2 ⟨hk2, er, rfl, her, hf⟩
  have HS2 : Hid _ := (⟨hk2.blk HS1.out.mp, HS1.out.nd⟩ : SM w2 m1 kv)
  have HK2 : Hid _ := HK1.out.trans hk2
  have HB2 : Hid _ := hk2.blk HB1.out
  have HF : Hid _ := hf
  clear hk2 hf HC HK1 HB1 HS1
  rcases her with rfl | ⟨T, u, rfl⟩
  all_goals
    go_wp2_with fail
    refine Calls.mono (HF.out w2 (Kept.refl _)) ?_
    rintro e w3 ⟨rfl, hk3⟩
    have HK3 : Hid _ := HK2.out.trans hk3
    have HB3 : Hid _ := hk3.blk HB2.out
    have HS3 : Hid _ := (⟨hk3.blk HS2.out.mp, HS2.out.nd⟩ : SM w3 m1 kv)
    have HE : Hid _ := env_sx (RowS.kept HN.out HK3.out) (RowS.kept HT.out HK3.out) HD.out hl
    simp only [List.length_map] at HE
    clear hk3 HF HK2 HB2 HS2
    unfold faultVal
    go_wp2_with fail
    refine Calls.mono HE.out ?_
    rintro e w4 ⟨m2, rfl, hs4, hk4, _⟩
    have HK4 : Hid _ := HK3.out.trans hk4
    have HB4 : Hid _ := hk4.blk HB3.out
    have HQ : Hid _ := mequal_sx (⟨hk4.blk HS3.out.mp, HS3.out.nd⟩ : SM w4 m1 kv) hs4
    clear hs4 hk4 HE HK3 HB3 HS3
    go_wp2_with fail
    refine Calls.mono HQ.out ?_
    rintro e w5 ⟨rfl, hk5⟩
    have hK := HK4.out.trans hk5
    have hb2 := hk5.blk HB4.out
    clear HQ hk5 HK4 HB4
    have c0 : w5.cell? ⟨w.heap.size, 0, none⟩ = some (.int .i64 0) := by simp [World.cell?, hb2]
    have c1 : w5.cell? ⟨w.heap.size, 1, none⟩ = some (.int .i64 0) := by simp [World.cell?, hb2]
    have c2 : w5.cell? ⟨w.heap.size, 2, none⟩ = some (.string { data := #[] }) := by simp [World.cell?, hb2]
    have c3 : w5.cell? ⟨w.heap.size, 3, none⟩ = some (.int .i64 0) := by simp [World.cell?, hb2]
    have c4 : w5.cell? ⟨w.heap.size, 4, none⟩ = some (.int .i64 0) := by simp [World.cell?, hb2]
    have f0 : ∀ j, w5.frozen? ⟨w.heap.size, j, none⟩ = false := fun j => by simp [World.frozen?, hb2]
    go_wp2_with fail
    obtain ⟨w6, hw6⟩ : ∃ w6, w6 = ((((w5.setCell ⟨w.heap.size, 0, none⟩ (.int .i64 what)).setCell ⟨w.heap.size, 1, none⟩ (.int .i64 loc)).setCell ⟨w.heap.size, 2, none⟩ (.string ss)).setCell ⟨w.heap.size, 3, none⟩ (.int .i64 0)).setCell ⟨w.heap.size, 4, none⟩ (.int .i64 0) := ⟨_, rfl⟩
    have hF : w6.heap[w.heap.size]? = some (.cells #[.int .i64 what, .int .i64 loc, .string ss, .int .i64 0, .int .i64 0] 23 (0, 0)) := by
      rw [hw6]
      simp [World.setCell, hb2, Array.getElem?_modify]
    have hKF : Kept w w6 := by
      rw [hw6]
      refine ⟨hK.1, hK.2, by simpa using hK.3, fun q hq => ?_⟩
      have e : ∀ (W : World) (j : Nat) (v : Value), (W.setCell ⟨w.heap.size, j, none⟩ v).heap[q]? = W.heap[q]? := fun W j v => Below.heap_setCell _ _ _ q (by intro z; simp at z; omega)
      exact (e _ _ _).trans ((e _ _ _).trans ((e _ _ _).trans ((e _ _ _).trans ((e _ _ _).trans (hK.4 q hq)))))
    rw [← hw6]
    clear hw6
    have d0 : w6.cell? ⟨w.heap.size, 0, none⟩ = some (.int .i64 what) := by simp [World.cell?, hF]
    have d1 : w6.cell? ⟨w.heap.size, 1, none⟩ = some (.int .i64 loc) := by simp [World.cell?, hF]
    have d2 : w6.cell? ⟨w.heap.size, 2, none⟩ = some (.string ss) := by simp [World.cell?, hF]
    have d3 : w6.cell? ⟨w.heap.size, 3, none⟩ = some (.int .i64 0) := by simp [World.cell?, hF]
    have d4 : w6.cell? ⟨w.heap.size, 4, none⟩ = some (.int .i64 0) := by simp [World.cell?, hF]
    exact bodyPost_ret (v := .tuple #[.string t, .agg #[.int .i64 what, .int .i64 loc, .string ss, .int .i64 0, .int .i64 0], .bool false]) (by simp [results, Tryz.results20, go_sem, d0, d1, d2, d3, d4]) rfl ⟨rfl, hKF⟩
end Go.Proofs.YtleenphlgbklmabGreatDoor
