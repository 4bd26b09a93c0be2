import Derived.Test.YtleenphlgbklmabGreatDoorWAsU
import Derived.Test.YtleenphlgbklmabGreatDoorWPKq
set_option linter.unusedVariables false
set_option linter.unusedSimpArgs false
namespace Go.Proofs.YtleenphlgbklmabGreatDoor
open Go.RowKit

theorem fltW_u (w : World) : (fltW w).heap[w.heap.size + 1 + 1]? = some (.cells #[.pointer none] 84 (0, 0)) := by
  unfold fltW
  rw [Below.heap_alloc _ _ _ (by simp)]
  have := heap_alloc_new ((w.alloc (.cells #[.int .i64 0, .int .i64 0, .string { data := #[] }, .int .i64 0, .int .i64 0] 23)).alloc (.cells #[.pointer none] 83)) (.cells #[.pointer none] 84)
  simpa using this
set_option maxRecDepth 20000 in
set_option maxHeartbeats 4000000 in
theorem fault_unb {A : Nat → Addr} (w : World) (hG : Glb A w) (b : Nat) (loc : Int) (n : ByteArray) (ha : w.heap[b]? = some (.cells #[.int .i64 loc, .string n] 97 (0, 0))) :
    Calls Tryz.prog 22 #[.iface 84 (.pointer (some ⟨b, 0, none⟩))] w fun e w' => e = .returned (faultVal 4 loc n) ∧ Below w.heap.size w w' := by
  have hB := fltW_below w
  have hr := fltW_r w
  have hs := fltW_u w
  have hz := fltW_size w
  have hg := (hG.below hB).et
  have hab : b < w.heap.size := lt_of_block ha
  have ha1 : (fltW w).heap[b]? = some (.cells #[.int .i64 loc, .string n] 97 (0, 0)) := (hB.block _ hab).trans ha
  clear hG ha
  go_enter Tryz.func22, Tryz.ntmps22
  go_wp2_with fail
  change Calls _ _ _ (fltW w) _
  generalize fltW w = w1 at *
  refine (as_miss_env_unb _ _ _ hg).mono ?_
  rintro e w2 ⟨rfl, hww⟩
  have hB2 : Below w1.heap.size w1 w2 := by rw [hww]; exact (((Below.refl _ _).alloc (by simp) _).alloc (by simp) _).alloc (by simp; omega) _
  clear hww
  have hz2 := hB2.size
  have hg2 := (hB2.cell (World.block_lt_of_cell? _ _ hg)).trans hg
  have hr2 := (hB2.block _ (by omega)).trans hr
  have hs2 := (hB2.block _ (by omega)).trans hs
  have ha2 := (hB2.block _ (lt_of_block ha1)).trans ha1
  have hBB := hB.trans (hB2.mono (by omega))
  clear hB hB2 hg hr hs ha1
  go_wp2_with fail
  refine (as_miss_syn_unb _ _ _ hg2).mono ?_
  rintro e v2 ⟨rfl, hww⟩
  have hB2 : Below w2.heap.size w2 v2 := by rw [hww]; exact (((Below.refl _ _).alloc (by simp) _).alloc (by simp) _).alloc (by simp; omega) _
  clear hww
  have hzv := hB2.size
  have hgv := (hB2.cell (World.block_lt_of_cell? _ _ hg2)).trans hg2
  have hrv := (hB2.block _ (by omega)).trans hr2
  have hsv := (hB2.block _ (by omega)).trans hs2
  have hav := (hB2.block _ (lt_of_block ha2)).trans ha2
  have hBV := hBB.trans (hB2.mono (by omega))
  clear hBB hB2 hg2 hr2 hs2 ha2
  go_wp2_with fail
  have hs0 : v2.cell? ⟨w.heap.size + 1 + 1, 0, none⟩ = some (.pointer none) := by simp [World.cell?, hsv]
  have hf0 : v2.frozen? ⟨w.heap.size + 1 + 1, 0, none⟩ = false := by simp [World.frozen?, hsv]
  refine (as_hit_unb ⟨b, 0, none⟩ _ _ v2 hs0 hf0 hgv).mono ?_
  rintro e w3 ⟨rfl, hww⟩
  have hB3 : Below v2.heap.size v2 ((((v2.alloc (.cells #[.pointer (some ⟨w.heap.size + 1 + 1, 0, none⟩)] 95)).alloc (.cells #[.pointer (some ⟨13, 95, none⟩), .pointer (some ⟨v2.heap.size, 0, none⟩), .int .u64 150] 129)).alloc (.cells #[.pointer (some ⟨13, 95, none⟩), .pointer (some ⟨v2.heap.size, 0, none⟩), .int .u64 150] 129)).alloc (.cells #[.pointer (some ⟨b, 0, none⟩)] 84)) := ((((Below.refl _ _).alloc (by simp) _).alloc (by simp) _).alloc (by simp; omega) _).alloc (by simp; omega) _
  generalize (((v2.alloc (.cells #[.pointer (some ⟨w.heap.size + 1 + 1, 0, none⟩)] 95)).alloc (.cells #[.pointer (some ⟨13, 95, none⟩), .pointer (some ⟨v2.heap.size, 0, none⟩), .int .u64 150] 129)).alloc (.cells #[.pointer (some ⟨13, 95, none⟩), .pointer (some ⟨v2.heap.size, 0, none⟩), .int .u64 150] 129)).alloc (.cells #[.pointer (some ⟨b, 0, none⟩)] 84) = w25 at *
  have hz3 := hB3.size
  have hr3 : w3.heap[w.heap.size]? = some (.cells #[.int .i64 0, .int .i64 0, .string { data := #[] }, .int .i64 0, .int .i64 0] 23 (0, 0)) := by rw [hww, Below.heap_setCell _ _ _ _ (by show w.heap.size ≠ w.heap.size + 1 + 1; omega), hB3.block _ (by omega)]; exact hrv
  have hs3 : w3.cell? ⟨w.heap.size + 1 + 1, 0, none⟩ = some (.pointer (some ⟨b, 0, none⟩)) := by
    rw [hww]
    have : w25.heap[w.heap.size + 1 + 1]? = some (.cells #[.pointer none] 84 (0, 0)) := (hB3.block _ (by omega)).trans hsv
    simp [World.cell?, World.setCell, this, Array.getElem?_modify]
  have ha3 : w3.heap[b]? = some (.cells #[.int .i64 loc, .string n] 97 (0, 0)) := by
    rw [hww, Below.heap_setCell _ _ _ _ (by show b ≠ w.heap.size + 1 + 1; omega), hB3.block _ (by omega)]
    exact hav
  have hB3' : Below w.heap.size w w3 := by
    rw [hww]
    exact (hBV.trans (hB3.mono (by omega))).setCell (by show w.heap.size ≤ w.heap.size + 1 + 1; omega) _
  clear hww hB3 hBV hgv hrv hsv hav hs0 hf0
  clear hz hz2 hz3 hzv
  have d0 : w3.cell? ⟨w.heap.size, 0, none⟩ = some (.int .i64 0) := by simp [World.cell?, hr3]
  have d1 : w3.cell? ⟨w.heap.size, 1, none⟩ = some (.int .i64 0) := by simp [World.cell?, hr3]
  have d2 : w3.cell? ⟨w.heap.size, 2, none⟩ = some (.string { data := #[] }) := by simp [World.cell?, hr3]
  have d3 : w3.cell? ⟨w.heap.size, 3, none⟩ = some (.int .i64 0) := by simp [World.cell?, hr3]
  have d4 : w3.cell? ⟨w.heap.size, 4, none⟩ = some (.int .i64 0) := by simp [World.cell?, hr3]
  have fz : ∀ i, w3.frozen? ⟨w.heap.size, i, none⟩ = false := fun i => by simp [World.frozen?, hr3]
  have e0 : w3.cell? ⟨b, 0, none⟩ = some (.int .i64 loc) := by simp [World.cell?, ha3]
  have e1 : w3.cell? ⟨b, 1, none⟩ = some (.string n) := by simp [World.cell?, ha3]
  have d0' : w3.drew.cell? ⟨w.heap.size, 0, none⟩ = some (.int .i64 0) := d0
  have d1' : w3.drew.cell? ⟨w.heap.size, 1, none⟩ = some (.int .i64 0) := d1
  have d2' : w3.drew.cell? ⟨w.heap.size, 2, none⟩ = some (.string { data := #[] }) := d2
  have d3' : w3.drew.cell? ⟨w.heap.size, 3, none⟩ = some (.int .i64 0) := d3
  have d4' : w3.drew.cell? ⟨w.heap.size, 4, none⟩ = some (.int .i64 0) := d4
  have fz' : ∀ i, w3.drew.frozen? ⟨w.heap.size, i, none⟩ = false := fz
  have e0' : w3.drew.cell? ⟨b, 0, none⟩ = some (.int .i64 loc) := e0
  have e1' : w3.drew.cell? ⟨b, 1, none⟩ = some (.string n) := e1
  have hs3' : w3.drew.cell? ⟨w.heap.size + 1 + 1, 0, none⟩ = some (.pointer (some ⟨b, 0, none⟩)) := hs3
  go_wp2_with fail
  go_region
  all_goals
    go_wp2_with fail
    have hr4 : (fltSet w3 w.heap.size (.int .i64 4) (.int .i64 loc) (.string n) (.int .i64 0) (.int .i64 0)).drew.heap[w.heap.size]? = _ := fltSet_blk hr3 (.int .i64 4) (.int .i64 loc) (.string n) (.int .i64 0) (.int .i64 0)
    have hB4 : Below w.heap.size w (fltSet w3 w.heap.size (.int .i64 4) (.int .i64 loc) (.string n) (.int .i64 0) (.int .i64 0)).drew := by
      have h := fltSet_below hB3' (Nat.le_refl _) (.int .i64 4) (.int .i64 loc) (.string n) (.int .i64 0) (.int .i64 0)
      exact h.drew
    change bodyPost _ _ _ _ _ (fltSet w3 w.heap.size (.int .i64 4) (.int .i64 loc) (.string n) (.int .i64 0) (.int .i64 0)).drew
    generalize (fltSet w3 w.heap.size (.int .i64 4) (.int .i64 loc) (.string n) (.int .i64 0) (.int .i64 0)).drew = w4 at *
    clear d0 d1 d2 d3 d4
    have d0 : w4.cell? ⟨w.heap.size, 0, none⟩ = some (.int .i64 4) := by simp [World.cell?, hr4]
    have d1 : w4.cell? ⟨w.heap.size, 1, none⟩ = some (.int .i64 loc) := by simp [World.cell?, hr4]
    have d2 : w4.cell? ⟨w.heap.size, 2, none⟩ = some (.string n) := by simp [World.cell?, hr4]
    have d3 : w4.cell? ⟨w.heap.size, 3, none⟩ = some (.int .i64 0) := by simp [World.cell?, hr4]
    have d4 : w4.cell? ⟨w.heap.size, 4, none⟩ = some (.int .i64 0) := by simp [World.cell?, hr4]
    exact bodyPost_ret (v := faultVal 4 loc n) (by simp [results, Tryz.results22, go_sem, faultVal, d0, d1, d2, d3, d4]) rfl ⟨rfl, hB4⟩
end Go.Proofs.YtleenphlgbklmabGreatDoor
