import Derived.Test.YtleenphlgbklmabGreatDoorXAsE
import Derived.Test.YtleenphlgbklmabGreatDoorXAsHit
import Derived.Test.YtleenphlgbklmabGreatDoorXPKq
import Derived.Test.YtleenphlgbklmabGreatDoorXPRdA
import Derived.Test.YtleenphlgbklmabGreatDoorXPEv
import Derived.Test.YtleenphlgbklmabGreatDoorXPMq
set_option linter.unusedVariables false
set_option linter.unusedSimpArgs false
namespace Go.Proofs.YtleenphlgbklmabGreatDoor
open Go.RowKit

theorem Kept.put1 {w V : World} (h : Kept w V) {fb : Nat} (hf : w.heap.size ≤ fb) (j : Nat) (v : Value) : Kept w (V.setCell ⟨fb, j, none⟩ v) := ⟨h.os, h.output, by simpa using h.size, fun q hq => (Below.heap_setCell _ _ _ q (by intro z; simp at z; omega)).trans (h.block q hq)⟩
theorem fltSet_kept {w V : World} (h : Kept w V) {fb : Nat} (hf : w.heap.size ≤ fb) (v0 v1 v2 v3 v4 : Value) : Kept w (fltSet V fb v0 v1 v2 v3 v4) := ((((h.put1 hf 0 v0).put1 hf 1 v1).put1 hf 2 v2).put1 hf 3 v3).put1 hf 4 v4
/-- what plain tells of an error, with what is within. -/
def faultV5 (what loc : Int) (s : ByteArray) (i j : Int) : Value := .agg #[.int .i64 what, .int .i64 loc, .string s, .int .i64 i, .int .i64 j]
theorem fltW_e (w : World) : (fltW w).heap[w.heap.size + 1 + 1 + 1]? = some (.cells #[.pointer none] 85 (0, 0)) := by
  unfold fltW
  have := heap_alloc_new (((w.alloc (.cells #[.int .i64 0, .int .i64 0, .string { data := #[] }, .int .i64 0, .int .i64 0] 23)).alloc (.cells #[.pointer none] 83)).alloc (.cells #[.pointer none] 84)) (.cells #[.pointer none] 85)
  simpa using this
set_option maxRecDepth 20000 in
set_option maxHeartbeats 4000000 in
theorem fault_env_nil {A : Nat → Addr} (w : World) (hG : Glb A w) (b : Nat) (n : ByteArray) (ha : w.heap[b]? = some (.cells #[.string n, .nilIface] 89 (0, 0))) :
    Calls Tryz.prog 22 #[.iface 85 (.pointer (some ⟨b, 0, none⟩))] w fun e w' => e = .returned (faultV5 5 0 n 0 0) ∧ Kept w w' := by
  have hB := fltW_below w
  have hr := fltW_r w
  have hs := fltW_e w
  have hz := fltW_size w
  have hg := (hG.below hB).et
  have hab : b < w.heap.size := lt_of_block ha
  have ha1 : (fltW w).heap[b]? = some (.cells #[.string n, .nilIface] 89 (0, 0)) := (hB.block _ hab).trans ha
  clear hG ha
  go_enter Tryz.func22, Tryz.ntmps22
  go_wp2_with fail
  change Calls _ _ _ (fltW w) _
  generalize fltW w = v2 at *
  have hs0 : v2.cell? ⟨w.heap.size + 1 + 1 + 1, 0, none⟩ = some (.pointer none) := by simp [World.cell?, hs]
  have hf0 : v2.frozen? ⟨w.heap.size + 1 + 1 + 1, 0, none⟩ = false := by simp [World.frozen?, hs]
  refine (as_hit_env ⟨b, 0, none⟩ _ _ v2 hs0 hf0 hg).mono ?_
  rintro e w3 ⟨rfl, hww⟩
  have hB3 : Below v2.heap.size v2 ((((v2.alloc (.cells #[.pointer (some ⟨w.heap.size + 1 + 1 + 1, 0, none⟩)] 87)).alloc (.cells #[.pointer (some ⟨13, 87, none⟩), .pointer (some ⟨v2.heap.size, 0, none⟩), .int .u64 150] 129)).alloc (.cells #[.pointer (some ⟨13, 87, none⟩), .pointer (some ⟨v2.heap.size, 0, none⟩), .int .u64 150] 129)).alloc (.cells #[.pointer (some ⟨b, 0, none⟩)] 85)) := ((((Below.refl _ _).alloc (by simp) _).alloc (by simp) _).alloc (by simp; omega) _).alloc (by simp; omega) _
  generalize (((v2.alloc (.cells #[.pointer (some ⟨w.heap.size + 1 + 1 + 1, 0, none⟩)] 87)).alloc (.cells #[.pointer (some ⟨13, 87, none⟩), .pointer (some ⟨v2.heap.size, 0, none⟩), .int .u64 150] 129)).alloc (.cells #[.pointer (some ⟨13, 87, none⟩), .pointer (some ⟨v2.heap.size, 0, none⟩), .int .u64 150] 129)).alloc (.cells #[.pointer (some ⟨b, 0, none⟩)] 85) = w25 at *
  have hz3 := hB3.size
  have hr3 : w3.heap[w.heap.size]? = some (.cells #[.int .i64 0, .int .i64 0, .string { data := #[] }, .int .i64 0, .int .i64 0] 23 (0, 0)) := by rw [hww, Below.heap_setCell _ _ _ _ (by show w.heap.size ≠ w.heap.size + 1 + 1 + 1; omega), hB3.block _ (by omega)]; exact hr
  have hs3 : w3.cell? ⟨w.heap.size + 1 + 1 + 1, 0, none⟩ = some (.pointer (some ⟨b, 0, none⟩)) := by
    rw [hww]
    have : w25.heap[w.heap.size + 1 + 1 + 1]? = some (.cells #[.pointer none] 85 (0, 0)) := (hB3.block _ (by omega)).trans hs
    simp [World.cell?, World.setCell, this, Array.getElem?_modify]
  have ha3 : w3.heap[b]? = some (.cells #[.string n, .nilIface] 89 (0, 0)) := by
    rw [hww, Below.heap_setCell _ _ _ _ (by show b ≠ w.heap.size + 1 + 1 + 1; omega), hB3.block _ (by omega)]
    exact ha1
  have hB3' : Below w.heap.size w w3 := by
    rw [hww]
    exact (hB.trans (hB3.mono (by omega))).setCell (by show w.heap.size ≤ w.heap.size + 1 + 1 + 1; omega) _
  clear hww hB3 hB hr hs hg ha1 hs0 hf0 hz hz3
  have e0 : w3.cell? ⟨b, 0, none⟩ = some (.string n) := by simp [World.cell?, ha3]
  have hka : Kept w3 (w3.alloc (.cells #[.int .i64 5, .int .i64 0, .string n, .int .i64 0, .int .i64 0] 23)) := Kept.alloc _ _
  have hfb := heap_alloc_new w3 (.cells #[.int .i64 5, .int .i64 0, .string n, .int .i64 0, .int .i64 0] 23)
  have hs4 := hka.cell hs3
  go_wp2_with fail
  have hr4 := hka.blk hr3
  have ha4 := hka.blk ha3
  have hK4 := (Kept.below hB3').trans hka
  generalize w3.alloc (.cells #[.int .i64 5, .int .i64 0, .string n, .int .i64 0, .int .i64 0] 23) = w4 at *
  clear hka hr3 hs3 ha3 hB3' e0 hs4
  generalize w3.heap.size = fb at *
  refine Calls.mono (err_unw w4 ha4 (.inl rfl)) ?_
  rintro e w5 ⟨rfl, hww⟩
  rw [hww]
  clear hww w5
  have f0 : w4.cell? ⟨fb, 0, none⟩ = some (.int .i64 5) := by simp [World.cell?, hfb]
  have f1 : w4.cell? ⟨fb, 1, none⟩ = some (.int .i64 0) := by simp [World.cell?, hfb]
  have f2 : w4.cell? ⟨fb, 2, none⟩ = some (.string n) := by simp [World.cell?, hfb]
  have f3 : w4.cell? ⟨fb, 3, none⟩ = some (.int .i64 0) := by simp [World.cell?, hfb]
  have f4 : w4.cell? ⟨fb, 4, none⟩ = some (.int .i64 0) := by simp [World.cell?, hfb]
  have d0 : w4.cell? ⟨w.heap.size, 0, none⟩ = some (.int .i64 0) := by simp [World.cell?, hr4]
  have d1 : w4.cell? ⟨w.heap.size, 1, none⟩ = some (.int .i64 0) := by simp [World.cell?, hr4]
  have d2 : w4.cell? ⟨w.heap.size, 2, none⟩ = some (.string { data := #[] }) := by simp [World.cell?, hr4]
  have d3 : w4.cell? ⟨w.heap.size, 3, none⟩ = some (.int .i64 0) := by simp [World.cell?, hr4]
  have d4 : w4.cell? ⟨w.heap.size, 4, none⟩ = some (.int .i64 0) := by simp [World.cell?, hr4]
  have fz : ∀ i, w4.frozen? ⟨w.heap.size, i, none⟩ = false := fun i => by simp [World.frozen?, hr4]
  go_wp2_with fail
  change bodyPost _ _ _ _ _ (fltSet w4 w.heap.size (.int .i64 5) (.int .i64 0) (.string n) (.int .i64 0) (.int .i64 0))
  have hr5 := fltSet_blk hr4 (.int .i64 5) (.int .i64 0) (.string n) (.int .i64 0) (.int .i64 0)
  have hK5 := fltSet_kept hK4 (Nat.le_refl _) (.int .i64 5) (.int .i64 0) (.string n) (.int .i64 0) (.int .i64 0)
  generalize fltSet w4 w.heap.size (.int .i64 5) (.int .i64 0) (.string n) (.int .i64 0) (.int .i64 0) = w6 at *
  clear d0 d1 d2 d3 d4
  have d0 : w6.cell? ⟨w.heap.size, 0, none⟩ = some (.int .i64 5) := by simp [World.cell?, hr5]
  have d1 : w6.cell? ⟨w.heap.size, 1, none⟩ = some (.int .i64 0) := by simp [World.cell?, hr5]
  have d2 : w6.cell? ⟨w.heap.size, 2, none⟩ = some (.string n) := by simp [World.cell?, hr5]
  have d3 : w6.cell? ⟨w.heap.size, 3, none⟩ = some (.int .i64 0) := by simp [World.cell?, hr5]
  have d4 : w6.cell? ⟨w.heap.size, 4, none⟩ = some (.int .i64 0) := by simp [World.cell?, hr5]
  exact bodyPost_ret (v := faultV5 5 0 n 0 0) (by simp [results, Tryz.results22, go_sem, faultV5, d0, d1, d2, d3, d4]) rfl ⟨rfl, hK5⟩
set_option maxRecDepth 20000 in
set_option maxHeartbeats 4000000 in
theorem fault_env_in {A : Nat → Addr} (w : World) (hG : Glb A w) (b : Nat) (n : ByteArray) {T : TypeId} {u : Value} {iw il : Int} (HI0 : ∀ W, Kept w W → Calls Tryz.prog 22 #[.iface T u] W fun e w' => e = .returned (faultVal iw il { data := #[] }) ∧ Kept W w') (HS0 : ∀ W, Kept w W → Calls Tryz.prog 40 #[.iface 85 (.pointer (some ⟨b, 0, none⟩)), .iface T u] W fun e w' => e = .returned (.bool true) ∧ w' = W) (ha : w.heap[b]? = some (.cells #[.string n, .iface T u] 89 (0, 0))) :
    Calls Tryz.prog 22 #[.iface 85 (.pointer (some ⟨b, 0, none⟩))] w fun e w' => e = .returned (faultV5 5 0 n iw il) ∧ Kept w w' := by
  have HI : Hid _ := HI0
  have HS : Hid _ := HS0
  clear HI0 HS0
  have hB := fltW_below w
  have hr := fltW_r w
  have hs := fltW_e w
  have hz := fltW_size w
  have hg := (hG.below hB).et
  have hab : b < w.heap.size := lt_of_block ha
  have ha1 : (fltW w).heap[b]? = some (.cells #[.string n, .iface T u] 89 (0, 0)) := (hB.block _ hab).trans ha
  clear hG ha
  go_enter Tryz.func22, Tryz.ntmps22
  go_wp2_with fail
  change Calls _ _ _ (fltW w) _
  generalize fltW w = v2 at *
  have hs0 : v2.cell? ⟨w.heap.size + 1 + 1 + 1, 0, none⟩ = some (.pointer none) := by simp [World.cell?, hs]
  have hf0 : v2.frozen? ⟨w.heap.size + 1 + 1 + 1, 0, none⟩ = false := by simp [World.frozen?, hs]
  refine (as_hit_env ⟨b, 0, none⟩ _ _ v2 hs0 hf0 hg).mono ?_
  rintro e w3 ⟨rfl, hww⟩
  have hB3 : Below v2.heap.size v2 ((((v2.alloc (.cells #[.pointer (some ⟨w.heap.size + 1 + 1 + 1, 0, none⟩)] 87)).alloc (.cells #[.pointer (some ⟨13, 87, none⟩), .pointer (some ⟨v2.heap.size, 0, none⟩), .int .u64 150] 129)).alloc (.cells #[.pointer (some ⟨13, 87, none⟩), .pointer (some ⟨v2.heap.size, 0, none⟩), .int .u64 150] 129)).alloc (.cells #[.pointer (some ⟨b, 0, none⟩)] 85)) := ((((Below.refl _ _).alloc (by simp) _).alloc (by simp) _).alloc (by simp; omega) _).alloc (by simp; omega) _
  generalize (((v2.alloc (.cells #[.pointer (some ⟨w.heap.size + 1 + 1 + 1, 0, none⟩)] 87)).alloc (.cells #[.pointer (some ⟨13, 87, none⟩), .pointer (some ⟨v2.heap.size, 0, none⟩), .int .u64 150] 129)).alloc (.cells #[.pointer (some ⟨13, 87, none⟩), .pointer (some ⟨v2.heap.size, 0, none⟩), .int .u64 150] 129)).alloc (.cells #[.pointer (some ⟨b, 0, none⟩)] 85) = w25 at *
  have hz3 := hB3.size
  have hr3 : w3.heap[w.heap.size]? = some (.cells #[.int .i64 0, .int .i64 0, .string { data := #[] }, .int .i64 0, .int .i64 0] 23 (0, 0)) := by rw [hww, Below.heap_setCell _ _ _ _ (by show w.heap.size ≠ w.heap.size + 1 + 1 + 1; omega), hB3.block _ (by omega)]; exact hr
  have hs3 : w3.cell? ⟨w.heap.size + 1 + 1 + 1, 0, none⟩ = some (.pointer (some ⟨b, 0, none⟩)) := by
    rw [hww]
    have : w25.heap[w.heap.size + 1 + 1 + 1]? = some (.cells #[.pointer none] 85 (0, 0)) := (hB3.block _ (by omega)).trans hs
    simp [World.cell?, World.setCell, this, Array.getElem?_modify]
  have ha3 : w3.heap[b]? = some (.cells #[.string n, .iface T u] 89 (0, 0)) := by
    rw [hww, Below.heap_setCell _ _ _ _ (by show b ≠ w.heap.size + 1 + 1 + 1; omega), hB3.block _ (by omega)]
    exact ha1
  have hB3' : Below w.heap.size w w3 := by
    rw [hww]
    exact (hB.trans (hB3.mono (by omega))).setCell (by show w.heap.size ≤ w.heap.size + 1 + 1 + 1; omega) _
  clear hww hB3 hB hr hs hg ha1 hs0 hf0 hz hz3
  have e0 : w3.cell? ⟨b, 0, none⟩ = some (.string n) := by simp [World.cell?, ha3]
  have hka : Kept w3 (w3.alloc (.cells #[.int .i64 5, .int .i64 0, .string n, .int .i64 0, .int .i64 0] 23)) := Kept.alloc _ _
  have hfb := heap_alloc_new w3 (.cells #[.int .i64 5, .int .i64 0, .string n, .int .i64 0, .int .i64 0] 23)
  have hs4 := hka.cell hs3
  go_wp2_with fail
  have hr4 := hka.blk hr3
  have ha4 := hka.blk ha3
  have hK4 := (Kept.below hB3').trans hka
  generalize w3.alloc (.cells #[.int .i64 5, .int .i64 0, .string n, .int .i64 0, .int .i64 0] 23) = w4 at *
  have hfl : w.heap.size < w3.heap.size := lt_of_block hr3
  clear hka hr3 hs3 ha3 hB3' e0 hs4
  generalize w3.heap.size = fb at *
  refine Calls.mono (err_unw w4 ha4 (.inr ⟨_, _, rfl⟩)) ?_
  rintro e w5 ⟨rfl, hww⟩
  rw [hww]
  clear hww w5
  go_wp2_with fail
  refine Calls.mono (HI.out w4 hK4) ?_
  rintro e w5 ⟨rfl, hk5⟩
  have hr5 := hk5.blk hr4
  have hfb5 := hk5.blk hfb
  have hK5 := hK4.trans hk5
  clear hk5 hr4 hfb hK4 ha4 HI
  unfold faultVal
  have hka : Kept w5 (w5.alloc (.cells #[.int .i64 iw, .int .i64 il, .string { data := #[] }, .int .i64 0, .int .i64 0] 23)) := Kept.alloc _ _
  have hgb := heap_alloc_new w5 (.cells #[.int .i64 iw, .int .i64 il, .string { data := #[] }, .int .i64 0, .int .i64 0] 23)
  go_wp2_with fail
  have hr6 := hka.blk hr5
  have hf6 := hka.blk hfb5
  have hK6 := hK5.trans hka
  have hne : fb ≠ w5.heap.size := by have := lt_of_block hfb5; omega
  generalize w5.alloc (.cells #[.int .i64 iw, .int .i64 il, .string { data := #[] }, .int .i64 0, .int .i64 0] 23) = V at *
  clear hka hr5 hfb5 hK5
  generalize w5.heap.size = gb at *
  have g0 : V.cell? ⟨gb, 0, none⟩ = some (.int .i64 iw) := by simp [World.cell?, hgb]
  have g1 : V.cell? ⟨gb, 1, none⟩ = some (.int .i64 il) := by simp [World.cell?, hgb]
  have f3 : V.cell? ⟨fb, 3, none⟩ = some (.int .i64 0) := by simp [World.cell?, hf6]
  have f4 : V.cell? ⟨fb, 4, none⟩ = some (.int .i64 0) := by simp [World.cell?, hf6]
  have z3 : V.frozen? ⟨fb, 3, none⟩ = false := by simp [World.frozen?, hf6]
  have z4 : V.frozen? ⟨fb, 4, none⟩ = false := by simp [World.frozen?, hf6]
  have g0' : V.drew.cell? ⟨gb, 0, none⟩ = some (.int .i64 iw) := g0
  have g1' : V.drew.cell? ⟨gb, 1, none⟩ = some (.int .i64 il) := g1
  have f3' : V.drew.cell? ⟨fb, 3, none⟩ = some (.int .i64 0) := f3
  have z3' : V.drew.frozen? ⟨fb, 3, none⟩ = false := z3
  have g1s : (V.drew.setCell ⟨fb, 3, none⟩ (.int .i64 iw)).cell? ⟨gb, 1, none⟩ = some (.int .i64 il) := (World.cell?_setCell_other _ _ _ _ (by simp [hne])).trans g1
  have f4s : (V.drew.setCell ⟨fb, 3, none⟩ (.int .i64 iw)).cell? ⟨fb, 4, none⟩ = some (.int .i64 0) := (World.cell?_setCell_other _ _ _ _ (by simp)).trans f4
  have z4s : (V.drew.setCell ⟨fb, 3, none⟩ (.int .i64 iw)).frozen? ⟨fb, 4, none⟩ = false := (World.frozen?_setCell _ _ _ _).trans z4
  go_region
  have hKX : Kept w ((V.setCell ⟨fb, 3, none⟩ (.int .i64 iw)).setCell ⟨fb, 4, none⟩ (.int .i64 il)).drew := ((hK6.put1 (by omega) 3 _).put1 (by omega) 4 _).trans ⟨rfl, rfl, Nat.le_refl _, fun _ _ => rfl⟩
  have hfX : ((V.setCell ⟨fb, 3, none⟩ (.int .i64 iw)).setCell ⟨fb, 4, none⟩ (.int .i64 il)).drew.heap[fb]? = some (.cells #[.int .i64 5, .int .i64 0, .string n, .int .i64 iw, .int .i64 il] 23 (0, 0)) := by
    show ((V.setCell ⟨fb, 3, none⟩ (.int .i64 iw)).setCell ⟨fb, 4, none⟩ (.int .i64 il)).heap[fb]? = _
    simp [World.setCell, hf6, Array.getElem?_modify]
  have hrX : ((V.setCell ⟨fb, 3, none⟩ (.int .i64 iw)).setCell ⟨fb, 4, none⟩ (.int .i64 il)).drew.heap[w.heap.size]? = some (.cells #[.int .i64 0, .int .i64 0, .string { data := #[] }, .int .i64 0, .int .i64 0] 23 (0, 0)) := by
    show ((V.setCell ⟨fb, 3, none⟩ (.int .i64 iw)).setCell ⟨fb, 4, none⟩ (.int .i64 il)).heap[w.heap.size]? = _
    rw [Below.heap_setCell _ _ _ _ (by show w.heap.size ≠ fb; omega), Below.heap_setCell _ _ _ _ (by show w.heap.size ≠ fb; omega)]
    exact hr6
  clear g0 g1 f3 f4 z3 z4 g0' g1' f3' z3' g1s f4s z4s hgb hr6 hf6 hK6
  generalize ((V.setCell ⟨fb, 3, none⟩ (.int .i64 iw)).setCell ⟨fb, 4, none⟩ (.int .i64 il)).drew = w4 at *
  go_wp2_with fail
  refine Calls.mono (HS.out w4 hKX) ?_
  rintro e w7 ⟨rfl, hww⟩
  rw [hww]
  clear hww w7
  have f0 : w4.cell? ⟨fb, 0, none⟩ = some (.int .i64 5) := by simp [World.cell?, hfX]
  have f1 : w4.cell? ⟨fb, 1, none⟩ = some (.int .i64 0) := by simp [World.cell?, hfX]
  have f2 : w4.cell? ⟨fb, 2, none⟩ = some (.string n) := by simp [World.cell?, hfX]
  have f3 : w4.cell? ⟨fb, 3, none⟩ = some (.int .i64 iw) := by simp [World.cell?, hfX]
  have f4 : w4.cell? ⟨fb, 4, none⟩ = some (.int .i64 il) := by simp [World.cell?, hfX]
  have d0 : w4.cell? ⟨w.heap.size, 0, none⟩ = some (.int .i64 0) := by simp [World.cell?, hrX]
  have d1 : w4.cell? ⟨w.heap.size, 1, none⟩ = some (.int .i64 0) := by simp [World.cell?, hrX]
  have d2 : w4.cell? ⟨w.heap.size, 2, none⟩ = some (.string { data := #[] }) := by simp [World.cell?, hrX]
  have d3 : w4.cell? ⟨w.heap.size, 3, none⟩ = some (.int .i64 0) := by simp [World.cell?, hrX]
  have d4 : w4.cell? ⟨w.heap.size, 4, none⟩ = some (.int .i64 0) := by simp [World.cell?, hrX]
  have fz : ∀ i, w4.frozen? ⟨w.heap.size, i, none⟩ = false := fun i => by simp [World.frozen?, hrX]
  go_wp2_with fail
  change bodyPost _ _ _ _ _ (fltSet w4 w.heap.size (.int .i64 5) (.int .i64 0) (.string n) (.int .i64 iw) (.int .i64 il))
  have hr5 := fltSet_blk hrX (.int .i64 5) (.int .i64 0) (.string n) (.int .i64 iw) (.int .i64 il)
  have hK5 := fltSet_kept hKX (Nat.le_refl _) (.int .i64 5) (.int .i64 0) (.string n) (.int .i64 iw) (.int .i64 il)
  generalize fltSet w4 w.heap.size (.int .i64 5) (.int .i64 0) (.string n) (.int .i64 iw) (.int .i64 il) = w6 at *
  clear d0 d1 d2 d3 d4
  have d0 : w6.cell? ⟨w.heap.size, 0, none⟩ = some (.int .i64 5) := by simp [World.cell?, hr5]
  have d1 : w6.cell? ⟨w.heap.size, 1, none⟩ = some (.int .i64 0) := by simp [World.cell?, hr5]
  have d2 : w6.cell? ⟨w.heap.size, 2, none⟩ = some (.string n) := by simp [World.cell?, hr5]
  have d3 : w6.cell? ⟨w.heap.size, 3, none⟩ = some (.int .i64 iw) := by simp [World.cell?, hr5]
  have d4 : w6.cell? ⟨w.heap.size, 4, none⟩ = some (.int .i64 il) := by simp [World.cell?, hr5]
  exact bodyPost_ret (v := faultV5 5 0 n iw il) (by simp [results, Tryz.results22, go_sem, faultV5, d0, d1, d2, d3, d4]) rfl ⟨rfl, hK5⟩
end Go.Proofs.YtleenphlgbklmabGreatDoor

namespace Go.Proofs.YtleenphlgbklmabGreatDoor
open Go.RowKit

set_option maxRecDepth 20000 in
set_option maxHeartbeats 4000000 in
theorem given_bad {w : World} {em : Nat} {kv rest : List (ByteArray × ByteArray)} {n ty : ByteArray} {R : Value → World → Prop} (hS : SM w em kv) (hl : kv.length ≤ 1000) (hsz : ∀ y, y ∈ kv → y.1.size ≤ 1000) (hp : ((n, ty) :: rest).Perm kv) (hso : (((n, ty) :: rest).map fun y => y.1.data.toList).Pairwise (fun x y => decide (x ≤ y) = true)) (hR : ∀ v w1 w2, Kept w1 w2 → R v w1 → R v w2)
    (h : (isNameF n = false ∧ ∀ w', R .nilIface w') ∨ (isNameF n = true ∧ ∀ W, Kept w W → Calls Tryz.prog 35 #[.string ty] W fun e w' => Kept W w' ∧ ∃ T u, e = .returned (.tuple #[.nilIface, .iface T u]) ∧ R (.iface T u) w')) :
    Calls Tryz.prog 71 #[.map (some em)] w fun e w' => Kept w w' ∧ ∃ b why, e = .returned (.tuple #[.agg #[.pointer none, .map none], .iface 85 (.pointer (some ⟨b, 0, none⟩))]) ∧ w'.heap[b]? = some (.cells #[.string n, why] 89 (0, 0)) ∧ (why = .nilIface ∨ ∃ T u, why = .iface T u) ∧ R why w' := by
  obtain ⟨kvs, hkv⟩ : ∃ kvs, kvs = (n, ty) :: rest := ⟨_, rfl⟩
  rw [← hkv] at hp hso
  have m1 := Tryz.mkG (w.alloc (.cells #[.pointer none, .map none] 168))
  have hk0 : Kept w ((w.alloc (.cells #[.pointer none, .map none] 168)).alloc (.map #[] 0)) := (Kept.alloc _ _).trans (Kept.alloc _ _)
  have hb0 : ((w.alloc (.cells #[.pointer none, .map none] 168)).alloc (.map #[] 0)).heap[w.heap.size]? = some (.cells #[.pointer none, .map none] 168 (0, 0)) := (Kept.alloc _ _).blk (heap_alloc_new _ _)
  have hg0 := GM.none (w.alloc (.cells #[.pointer none, .map none] 168)) []
  have hz0 : (w.alloc (.cells #[.pointer none, .map none] 168)).heap.size = w.heap.size + 1 := by simp
  rw [hz0] at hg0 m1
  go_enter Tryz.func71, Tryz.ntmps71
  go_wp2_with fail
  clear m1 hz0
  generalize (w.alloc (.cells #[.pointer none, .map none] 168)).alloc (.map #[] 0) = W at *
  have hS0 : SM W em kv := ⟨hk0.blk hS.mp, hS.nd⟩
  have HK : Hid _ := keys_any (some em) W
  have HSO : Hid _ := sorted_some hS0 hl (fun y hy => by have := hsz y hy; unfold maxLen; omega)
  have HG0 : Hid _ := hg0
  have HK0 : Hid _ := hk0
  have HB0 : Hid _ := hb0
  clear hg0 hk0 hb0
  refine Calls.mono HK.out ?_
  rintro e w2 ⟨rfl, hw2⟩
  rw [hw2]
  clear HK hw2 w2
  go_wp2_with fail
  refine Calls.mono HSO.out ?_
  rintro e w2 ⟨v, sk, rfl, hpp, hpo, hrow, hk2⟩
  have hk2 : Kept W w2 := (Kept.alloc _ _).trans hk2
  have hsk : sk = kvs.map fun y => y.1.data.toList := perm_sorted_eq (hpp.trans ((hp.map _).symm)) hpo hso
  subst hsk
  obtain ⟨ao, cap, rfl⟩ : ∃ ao cap, v = .slice ao kvs.length cap := by
    rcases hrow.2 with ⟨rfl, q⟩ | ⟨g, cap, cur, rfl, _⟩
    · exact ⟨none, 0, by rw [List.length_map] at q; rw [q]⟩
    · exact ⟨_, _, by rw [List.length_map]⟩
  obtain ⟨g, HR⟩ : ∃ g, Hid (∀ (q : Nat) (y : ByteArray × ByteArray), kvs[q]? = some y → ao = some ⟨g, 0, none⟩ ∧ ∃ cs, w2.heap[g]? = some (.cells cs 9 (0, 0)) ∧ cs[q]? = some (.string y.1)) := by
    rcases hrow.2 with ⟨e1, e2⟩ | ⟨g, cap', cur, e1, _, hg, hcs⟩
    · refine ⟨0, fun q x hx => ?_⟩
      have := (List.getElem?_eq_some_iff.1 hx).1
      rw [List.length_map] at e2
      omega
    · simp only [Value.slice.injEq] at e1
      refine ⟨g, fun q y hy => ⟨e1.1, _, hg, ?_⟩⟩
      have h1 := World.ownsRow.cells hrow (g := g) (by rw [e1.1]; rfl) q (encStr y.1.data.toList) (by rw [List.getElem?_map, List.getElem?_map, hy]; rfl)
      rw [add_none] at h1
      simp only [World.cell?, hg] at h1
      have e4 : encStr y.1.data.toList = .string y.1 := by
        show Value.string ⟨y.1.data.toList.toArray⟩ = _
        rw [Array.toArray_toList]
      rw [e4] at h1
      exact h1
  have hkl : kvs.length ≤ 1000 := by rw [hp.length_eq]; exact hl
  have HH : Hid _ := h
  have HRR : Hid _ := hR
  have HP : Hid _ := hp
  have HSM : Hid _ := (⟨hk2.blk hS0.mp, hS0.nd⟩ : SM w2 em kv)
  have HEM : Hid (¬ em = w.heap.size + 1) := fun z => by have := lt_of_block hS.mp; omega
  have HG3 : Hid _ := GM.kt HG0.out (Kt.of_kept (ad := []) (S := fun _ => False) hk2) id
  have HG2 : Hid _ := GM.kt HG0.out (Kt.of_kept (ad := []) (S := fun _ => False) hk2) id
  have HKW : Hid _ := HK0.out.trans hk2
  have HB2 : Hid _ := hk2.blk HB0.out
  have HSZ : Hid _ := hsz
  have HWZ : Hid _ := hk2.size
  have HWS : Hid (w.heap.size < W.heap.size) := lt_of_block HB0.out
  clear hrow hpp hpo hso hk2 hS0 hS h hp HSO HG0 HK0 HB0 hsz hl HG2 HG3 hR
  go_wp2_with fail
  have hlt : 0 < kvs.length := by rw [hkv]; simp
  have hy : kvs[0]? = some (n, ty) := by rw [hkv]; rfl
  obtain ⟨rfl, cs, hg, hcq⟩ := HR.out 0 _ hy
  have hmem : (n, ty) ∈ kv := HP.out.mem_iff.1 (List.mem_of_getElem? hy)
  have hc : w2.cell? ⟨g, 0, none⟩ = some (.string n) := by simp [World.cell?, hg, hcq]
  have hnz : n.size ≤ 1000 := HSZ.out _ hmem
  have HN : Hid _ := isname_any n w2 (by omega)
  have hlk := SM.at HSM.out hmem
  have hfl := Tryz.fldT ty w2
  clear hy hg hcq hmem HR HP HSM hkv HEM HSZ hkl
  refine wp_loop_rounds 1 ?_
  rw [rounds_succ]
  go_wp2_with fail
  have HKw : Hid _ := HKW.out
  rcases HH.out with ⟨hn0, hr0⟩ | ⟨hn1, hpt⟩
  · rw [hn0] at HN
    refine Calls.mono HN.out ?_
    rintro e w' ⟨rfl, hww⟩
    rw [hww]
    clear hww w' HN HH hn0
    have HR0 : Hid _ := hr0
    clear hr0
    have HC : Hid _ := sclone_any n w2 (by omega)
    have c0 : w2.cell? ⟨w.heap.size, 0, none⟩ = some (.pointer none) := by simp [World.cell?, HB2.out]
    have c1 : w2.cell? ⟨w.heap.size, 1, none⟩ = some (.map none) := by simp [World.cell?, HB2.out]
    have f0 : ∀ j, w2.frozen? ⟨w.heap.size, j, none⟩ = false := fun j => by simp [World.frozen?, HB2.out]
    go_wp2_with fail
    refine Calls.mono HC.out ?_
    rintro e w3 ⟨rfl, hB3⟩
    have HB3 := Kept.below hB3
    clear HC hB3
    have hk4 : Kept w3 (w3.alloc (.cells #[.string n, .nilIface] 89)) := Kept.alloc _ _
    have hb4 := heap_alloc_new w3 (.cells #[.string n, .nilIface] 89)
    have c0' := hk4.cell (HB3.cell c0)
    have c1' := hk4.cell (HB3.cell c1)
    have hr4 := hk4.blk (HB3.blk HB2.out)
    have f0' : ∀ j, (w3.alloc (.cells #[.string n, .nilIface] 89)).frozen? ⟨w.heap.size, j, none⟩ = false := fun j => by rw [World.frozen?]; simp only [hr4]; rfl
    have hK4 := (HKW.out.trans HB3).trans hk4
    go_wp2_with fail
    generalize w3.alloc (.cells #[.string n, .nilIface] 89) = Z at *
    have hne : ¬ w3.heap.size = w.heap.size := by have := HKW.out.size; have := HB3.size; have := lt_of_block HB2.out; omega
    have hKX : Kept w ((Z.setCell ⟨w.heap.size, 0, none⟩ (.pointer none)).setCell ⟨w.heap.size, 1, none⟩ (.map none)) := (hK4.put1 (Nat.le_refl _) 0 _).put1 (Nat.le_refl _) 1 _
    have hbX : ((Z.setCell ⟨w.heap.size, 0, none⟩ (.pointer none)).setCell ⟨w.heap.size, 1, none⟩ (.map none)).heap[w3.heap.size]? = _ := (Below.heap_setCell _ _ _ _ hne).trans ((Below.heap_setCell _ _ _ _ hne).trans hb4)
    have hrX : ((Z.setCell ⟨w.heap.size, 0, none⟩ (.pointer none)).setCell ⟨w.heap.size, 1, none⟩ (.map none)).heap[w.heap.size]? = some (.cells #[.pointer none, .map none] 168 (0, 0)) := by simp [World.setCell, hr4, Array.getElem?_modify]
    have hRX : R (.nilIface) ((Z.setCell ⟨w.heap.size, 0, none⟩ (.pointer none)).setCell ⟨w.heap.size, 1, none⟩ (.map none)) := HR0.out _
    generalize (Z.setCell ⟨w.heap.size, 0, none⟩ (.pointer none)).setCell ⟨w.heap.size, 1, none⟩ (.map none) = X at *
    have d0 : X.cell? ⟨w.heap.size, 0, none⟩ = some (.pointer none) := by simp [World.cell?, hrX]
    have d1 : X.cell? ⟨w.heap.size, 1, none⟩ = some (.map none) := by simp [World.cell?, hrX]
    exact bodyPost_ret (v := .tuple #[.agg #[.pointer none, .map none], .iface 85 (.pointer (some ⟨w3.heap.size, 0, none⟩))]) (by simp [results, Tryz.results71, go_sem, d0, d1]) rfl ⟨hKX, _, _, rfl, hbX, .inl rfl, hRX⟩
  · rw [hn1] at HN
    refine Calls.mono HN.out ?_
    rintro e w' ⟨rfl, hww⟩
    rw [hww]
    clear hww w' HN HH hn1
    have HPT : Hid _ := hpt w2 HKW.out
    clear hpt
    go_wp2_with fail
    refine Calls.mono HPT.out ?_
    rintro e w4 ⟨hq4, T, u, rfl, hR4⟩
    clear HPT
    have HC : Hid _ := sclone_any n w4 (by omega)
    have c0 : w2.cell? ⟨w.heap.size, 0, none⟩ = some (.pointer none) := by simp [World.cell?, HB2.out]
    have c1 : w2.cell? ⟨w.heap.size, 1, none⟩ = some (.map none) := by simp [World.cell?, HB2.out]
    have HR4 : Hid _ := hR4
    have HQ4 : Hid _ := hq4
    clear hR4 hq4
    go_wp2_with fail
    refine Calls.mono HC.out ?_
    rintro e w3 ⟨rfl, hB3⟩
    have hk34 := Kept.below hB3
    have hq4 := HQ4.out
    have hR4 := HR4.out
    have HB3 := hq4.trans hk34
    clear HC hB3 HQ4 HR4
    have hk4 : Kept w3 (w3.alloc (.cells #[.string n, .iface T u] 89)) := Kept.alloc _ _
    have hb4 := heap_alloc_new w3 (.cells #[.string n, .iface T u] 89)
    have c0' := hk4.cell (HB3.cell c0)
    have c1' := hk4.cell (HB3.cell c1)
    have hr4 := hk4.blk (HB3.blk HB2.out)
    have f0' : ∀ j, (w3.alloc (.cells #[.string n, .iface T u] 89)).frozen? ⟨w.heap.size, j, none⟩ = false := fun j => by rw [World.frozen?]; simp only [hr4]; rfl
    have hK4 := (HKW.out.trans HB3).trans hk4
    go_wp2_with fail
    generalize w3.alloc (.cells #[.string n, .iface T u] 89) = Z at *
    have hne : ¬ w3.heap.size = w.heap.size := by have := HKW.out.size; have := HB3.size; have := lt_of_block HB2.out; omega
    have hKX : Kept w ((Z.setCell ⟨w.heap.size, 0, none⟩ (.pointer none)).setCell ⟨w.heap.size, 1, none⟩ (.map none)) := (hK4.put1 (Nat.le_refl _) 0 _).put1 (Nat.le_refl _) 1 _
    have hbX : ((Z.setCell ⟨w.heap.size, 0, none⟩ (.pointer none)).setCell ⟨w.heap.size, 1, none⟩ (.map none)).heap[w3.heap.size]? = _ := (Below.heap_setCell _ _ _ _ hne).trans ((Below.heap_setCell _ _ _ _ hne).trans hb4)
    have hrX : ((Z.setCell ⟨w.heap.size, 0, none⟩ (.pointer none)).setCell ⟨w.heap.size, 1, none⟩ (.map none)).heap[w.heap.size]? = some (.cells #[.pointer none, .map none] 168 (0, 0)) := by simp [World.setCell, hr4, Array.getElem?_modify]
    have hRX : R (.iface T u) ((Z.setCell ⟨w.heap.size, 0, none⟩ (.pointer none)).setCell ⟨w.heap.size, 1, none⟩ (.map none)) := by
      refine HRR.out _ w4 _ ?_ hR4
      refine ⟨(hk34.trans hk4).os, (hk34.trans hk4).output, by simpa using (hk34.trans hk4).size, fun k hk => ?_⟩
      by_cases hkk : k = w.heap.size
      · rw [hkk]
        exact hrX.trans (hq4.blk HB2.out).symm
      · exact (Below.heap_setCell _ _ _ _ hkk).trans ((Below.heap_setCell _ _ _ _ hkk).trans ((hk34.trans hk4).block k hk))
    generalize (Z.setCell ⟨w.heap.size, 0, none⟩ (.pointer none)).setCell ⟨w.heap.size, 1, none⟩ (.map none) = X at *
    have d0 : X.cell? ⟨w.heap.size, 0, none⟩ = some (.pointer none) := by simp [World.cell?, hrX]
    have d1 : X.cell? ⟨w.heap.size, 1, none⟩ = some (.map none) := by simp [World.cell?, hrX]
    exact bodyPost_ret (v := .tuple #[.agg #[.pointer none, .map none], .iface 85 (.pointer (some ⟨w3.heap.size, 0, none⟩))]) (by simp [results, Tryz.results71, go_sem, d0, d1]) rfl ⟨hKX, _, _, rfl, hbX, .inr ⟨_, _, rfl⟩, hRX⟩
end Go.Proofs.YtleenphlgbklmabGreatDoor

namespace Go.Proofs.YtleenphlgbklmabGreatDoor
open Go.RowKit

theorem set1_blk {V : World} {b : Nat} {x : Value} {T : TypeId} (h : V.heap[b]? = some (.cells #[x] T (0, 0))) (v : Value) : (V.setCell ⟨b, 0, none⟩ v).heap[b]? = some (.cells #[v] T (0, 0)) := by simp [World.setCell, h, Array.getElem?_modify]
set_option maxRecDepth 20000 in
set_option maxHeartbeats 4000000 in
theorem tot_long {A : Nat → Addr} {fl : Int} {s : ByteArray} {em : Nat} (w : World) (hG : Glb A w) (hs : 300 < s.size) (hm : s.size ≤ 9223372036854775807) :
    Calls Tryz.prog 45 #[.agg #[.int .i64 fl, .nilFunc], .string s, .map (some em)] w fun e w' => e = .returned (.tuple #[.nilIface, .iface 342 (.pointer (some (A 0)))]) ∧ Kept w w' := by
  have hk1 : Kept w (((w.alloc (.cells #[.int .i64 fl, .nilFunc] 103)).alloc (.cells #[.nilIface] 77)).alloc (.cells #[.nilIface] 56)) := ((Kept.alloc _ _).trans (Kept.alloc _ _)).trans (Kept.alloc _ _)
  have e1 : (w.alloc (.cells #[.int .i64 fl, .nilFunc] 103)).heap.size = w.heap.size + 1 := by simp
  have e2 : ((w.alloc (.cells #[.int .i64 fl, .nilFunc] 103)).alloc (.cells #[.nilIface] 77)).heap.size = w.heap.size + 1 + 1 := by simp
  have hb0 : (((w.alloc (.cells #[.int .i64 fl, .nilFunc] 103)).alloc (.cells #[.nilIface] 77)).alloc (.cells #[.nilIface] 56)).heap[w.heap.size]? = some (.cells #[.int .i64 fl, .nilFunc] 103 (0, 0)) := ((Kept.alloc _ _).trans (Kept.alloc _ _)).blk (heap_alloc_new _ _)
  have hb1 : (((w.alloc (.cells #[.int .i64 fl, .nilFunc] 103)).alloc (.cells #[.nilIface] 77)).alloc (.cells #[.nilIface] 56)).heap[w.heap.size + 1]? = some (.cells #[.nilIface] 77 (0, 0)) := by
    rw [← e1]
    exact (Kept.alloc _ _).blk (heap_alloc_new _ _)
  have hb2 : (((w.alloc (.cells #[.int .i64 fl, .nilFunc] 103)).alloc (.cells #[.nilIface] 77)).alloc (.cells #[.nilIface] 56)).heap[w.heap.size + 1 + 1]? = some (.cells #[.nilIface] 56 (0, 0)) := by
    rw [← e2]
    exact heap_alloc_new _ _
  clear e1 e2
  go_enter_defers Tryz.func45, Tryz.ntmps45
  go_wp2_with fail
  generalize ((w.alloc (.cells #[.int .i64 fl, .nilFunc] 103)).alloc (.cells #[.nilIface] 77)).alloc (.cells #[.nilIface] 56) = W at *
  have HP : Hid _ := pparse_long s W (hG.kept hk1) hs hm
  refine Calls.mono HP.out ?_
  rintro e w1 ⟨rfl, hkp⟩
  have c1 := hkp.blk hb1
  have c2 := hkp.blk hb2
  have d1 : w1.cell? ⟨w.heap.size + 1, 0, none⟩ = some .nilIface := by simp [World.cell?, c1]
  have f1 : w1.frozen? ⟨w.heap.size + 1, 0, none⟩ = false := by simp [World.frozen?, c1]
  have d2 : w1.cell? ⟨w.heap.size + 1 + 1, 0, none⟩ = some .nilIface := by simp [World.cell?, c2]
  have f2 : w1.frozen? ⟨w.heap.size + 1 + 1, 0, none⟩ = false := by simp [World.frozen?, c2]
  have HW1 : Hid _ := hk1.trans hkp
  clear HP hkp hb0 hb1 hb2 hk1
  go_wp2_with fail
  have g1 : (w1.setCell ⟨w.heap.size + 1 + 1, 0, none⟩ (.iface 342 (.pointer (some (A 0))))).heap[w.heap.size + 1]? = some (.cells #[.nilIface] 77 (0, 0)) := (Below.heap_setCell _ _ _ _ (by show w.heap.size + 1 ≠ w.heap.size + 1 + 1; omega)).trans c1
  have g2 : (w1.setCell ⟨w.heap.size + 1 + 1, 0, none⟩ (.iface 342 (.pointer (some (A 0))))).heap[w.heap.size + 1 + 1]? = some (.cells #[.iface 342 (.pointer (some (A 0)))] 56 (0, 0)) := by simp [World.setCell, c2, Array.getElem?_modify]
  have hkV : Kept w (w1.setCell ⟨w.heap.size + 1 + 1, 0, none⟩ (.iface 342 (.pointer (some (A 0))))) := HW1.out.put1 (by omega) 0 _
  generalize w1.setCell ⟨w.heap.size + 1 + 1, 0, none⟩ (.iface 342 (.pointer (some (A 0)))) = V at *
  clear c1 c2 d1 d2 f1 f2
  have b1 : V.cell? ⟨w.heap.size + 1, 0, none⟩ = some .nilIface := by simp [World.cell?, g1]
  have b2 : V.cell? ⟨w.heap.size + 1 + 1, 0, none⟩ = some (.iface 342 (.pointer (some (A 0)))) := by simp [World.cell?, g2]
  have z1 : V.frozen? ⟨w.heap.size + 1, 0, none⟩ = false := by simp [World.frozen?, g1]
  have z2 : V.frozen? ⟨w.heap.size + 1 + 1, 0, none⟩ = false := by simp [World.frozen?, g2]
  have b1' : V.drew.cell? ⟨w.heap.size + 1, 0, none⟩ = some .nilIface := b1
  have b2' : V.drew.cell? ⟨w.heap.size + 1 + 1, 0, none⟩ = some (.iface 342 (.pointer (some (A 0)))) := b2
  have z1' : V.drew.frozen? ⟨w.heap.size + 1, 0, none⟩ = false := z1
  have hq1 := Kept.again g1
  have hq2 := Kept.again (hq1.blk g2)
  have y2 : (V.drew.setCell ⟨w.heap.size + 1, 0, none⟩ .nilIface).cell? ⟨w.heap.size + 1 + 1, 0, none⟩ = some (.iface 342 (.pointer (some (A 0)))) := (World.cell?_setCell_other _ _ _ _ (by simp)).trans b2
  have x2 : (V.drew.setCell ⟨w.heap.size + 1, 0, none⟩ .nilIface).frozen? ⟨w.heap.size + 1 + 1, 0, none⟩ = false := (World.frozen?_setCell _ _ _ _).trans z2
  have hKX : Kept V ((V.setCell ⟨w.heap.size + 1, 0, none⟩ .nilIface).setCell ⟨w.heap.size + 1 + 1, 0, none⟩ (.iface 342 (.pointer (some (A 0))))).drew := (hq1.trans hq2).trans (Kept.drew _)
  have hX1 := hKX.blk g1
  have hX2 := hKX.blk g2
  have HKX : Hid _ := hKX
  clear hq1 hq2 hKX g1 g2
  go_region
  all_goals
    go_wp2_with fail
    generalize ((V.setCell ⟨w.heap.size + 1, 0, none⟩ .nilIface).setCell ⟨w.heap.size + 1 + 1, 0, none⟩ (.iface 342 (.pointer (some (A 0))))).drew = X at *
    have cp : X.cell? ⟨w.heap.size + 1, 0, none⟩ = some .nilIface := by simp [World.cell?, hX1]
    have cq : X.cell? ⟨w.heap.size + 1 + 1, 0, none⟩ = some (.iface 342 (.pointer (some (A 0)))) := by simp [World.cell?, hX2]
    refine leaves_cons (f := 70) (args := #[.pointer (some ⟨w.heap.size + 1, 0, none⟩), .pointer (some ⟨w.heap.size + 1 + 1, 0, none⟩)]) (by simp) (by simp [go_sem]) ?_
    refine (catchY_idle ⟨w.heap.size + 1, 0, none⟩ ⟨w.heap.size + 1 + 1, 0, none⟩ _).mono ?_
    rintro e u' w'' ⟨rfl, rfl, rfl⟩
    simp [Leaves, settle, results, Tryz.results45, go_sem, cp, cq]
    exact hkV.trans HKX.out
set_option maxRecDepth 20000 in
set_option maxHeartbeats 4000000 in
theorem tot_arg {A : Nat → Addr} {fl : Int} {s : ByteArray} {em : Nat} {x : X} (w : World) (hG : Glb A w) (hx : exO s = some x) (hfl : fl < 1 ∨ (¬ fl < 1 ∧ 12 < fl)) :
    Calls Tryz.prog 45 #[.agg #[.int .i64 fl, .nilFunc], .string s, .map (some em)] w fun e w' => e = .returned (.tuple #[.nilIface, .iface 342 (.pointer (some (A 2)))]) ∧ Kept w w' := by
  have hk1 : Kept w (((w.alloc (.cells #[.int .i64 fl, .nilFunc] 103)).alloc (.cells #[.nilIface] 77)).alloc (.cells #[.nilIface] 56)) := ((Kept.alloc _ _).trans (Kept.alloc _ _)).trans (Kept.alloc _ _)
  have e1 : (w.alloc (.cells #[.int .i64 fl, .nilFunc] 103)).heap.size = w.heap.size + 1 := by simp
  have e2 : ((w.alloc (.cells #[.int .i64 fl, .nilFunc] 103)).alloc (.cells #[.nilIface] 77)).heap.size = w.heap.size + 1 + 1 := by simp
  have hb0 : (((w.alloc (.cells #[.int .i64 fl, .nilFunc] 103)).alloc (.cells #[.nilIface] 77)).alloc (.cells #[.nilIface] 56)).heap[w.heap.size]? = some (.cells #[.int .i64 fl, .nilFunc] 103 (0, 0)) := ((Kept.alloc _ _).trans (Kept.alloc _ _)).blk (heap_alloc_new _ _)
  have hb1 : (((w.alloc (.cells #[.int .i64 fl, .nilFunc] 103)).alloc (.cells #[.nilIface] 77)).alloc (.cells #[.nilIface] 56)).heap[w.heap.size + 1]? = some (.cells #[.nilIface] 77 (0, 0)) := by
    rw [← e1]
    exact (Kept.alloc _ _).blk (heap_alloc_new _ _)
  have hb2 : (((w.alloc (.cells #[.int .i64 fl, .nilFunc] 103)).alloc (.cells #[.nilIface] 77)).alloc (.cells #[.nilIface] 56)).heap[w.heap.size + 1 + 1]? = some (.cells #[.nilIface] 56 (0, 0)) := by
    rw [← e2]
    exact heap_alloc_new _ _
  clear e1 e2
  go_enter_defers Tryz.func45, Tryz.ntmps45
  go_wp2_with fail
  generalize ((w.alloc (.cells #[.int .i64 fl, .nilFunc] 103)).alloc (.cells #[.nilIface] 77)).alloc (.cells #[.nilIface] 56) = W at *
  have HP : Hid _ := ex_good hx W (hG.kept hk1)
  refine Calls.mono HP.out ?_
  rintro e w1 ⟨hkp, T, u, rfl, hpx⟩
  have c0 := hkp.blk hb0
  have c1 := hkp.blk hb1
  have c2 := hkp.blk hb2
  have d0 : w1.cell? ⟨w.heap.size, 0, none⟩ = some (.int .i64 fl) := by simp [World.cell?, c0]
  have d2 : w1.cell? ⟨w.heap.size + 1 + 1, 0, none⟩ = some .nilIface := by simp [World.cell?, c2]
  have f2 : w1.frozen? ⟨w.heap.size + 1 + 1, 0, none⟩ = false := by simp [World.frozen?, c2]
  have HW1 : Hid _ := hk1.trans hkp
  have HPX : Hid _ := hpx
  clear HP hkp hpx hb0 hb1 hb2 hk1
  have hGG := (hG.kept HW1.out).c2
  have hgl : 2 < w.heap.size := World.block_lt_of_cell? _ _ hG.c2
  have hk2 := Kept.again c2
  have g0 := hk2.blk c0
  have g1 := hk2.blk c1
  have g2 := hk2.blk c2
  have hGV := hk2.cell hGG
  have n0 : (w1.setCell ⟨w.heap.size + 1 + 1, 0, none⟩ .nilIface).cell? ⟨w.heap.size, 0, none⟩ = some (.int .i64 fl) := by rw [World.cell?]; simp only [g0]; rfl
  have hkV := HW1.out.trans hk2
  clear c0 c1 hG hx hk2 HW1 HPX
  rcases hfl with hf | ⟨hf, hf2⟩
  · go_wp2_with fail
    generalize w1.setCell ⟨w.heap.size + 1 + 1, 0, none⟩ .nilIface = V at *
    have b1 : V.cell? ⟨w.heap.size + 1, 0, none⟩ = some .nilIface := by simp [World.cell?, g1]
    have b2 : V.cell? ⟨w.heap.size + 1 + 1, 0, none⟩ = some .nilIface := by simp [World.cell?, g2]
    have z1 : V.frozen? ⟨w.heap.size + 1, 0, none⟩ = false := by simp [World.frozen?, g1]
    have z2 : V.frozen? ⟨w.heap.size + 1 + 1, 0, none⟩ = false := by simp [World.frozen?, g2]
    have b1' : V.drew.cell? ⟨w.heap.size + 1, 0, none⟩ = some .nilIface := b1
    have b2' : V.drew.cell? ⟨w.heap.size + 1 + 1, 0, none⟩ = some .nilIface := b2
    have z1' : V.drew.frozen? ⟨w.heap.size + 1, 0, none⟩ = false := z1
    have hGV' : V.drew.cell? ⟨2, 0, none⟩ = some (.iface 342 (.pointer (some (A 2)))) := hGV
    have gS : (V.drew.setCell ⟨w.heap.size + 1, 0, none⟩ .nilIface).cell? ⟨2, 0, none⟩ = some (.iface 342 (.pointer (some (A 2)))) := (World.cell?_setCell_other _ _ _ _ (by first | (simp; done) | (simp; omega))).trans hGV
    have y2 : (V.drew.setCell ⟨w.heap.size + 1, 0, none⟩ .nilIface).cell? ⟨w.heap.size + 1 + 1, 0, none⟩ = some .nilIface := (World.cell?_setCell_other _ _ _ _ (by simp)).trans b2
    have x2 : (V.drew.setCell ⟨w.heap.size + 1, 0, none⟩ .nilIface).frozen? ⟨w.heap.size + 1 + 1, 0, none⟩ = false := (World.frozen?_setCell _ _ _ _).trans z2
    have hKX : Kept w ((V.setCell ⟨w.heap.size + 1, 0, none⟩ .nilIface).setCell ⟨w.heap.size + 1 + 1, 0, none⟩ (.iface 342 (.pointer (some (A 2))))).drew := ((hkV.put1 (by omega) 0 _).put1 (by omega) 0 _).trans (Kept.drew _)
    have cp : ((V.setCell ⟨w.heap.size + 1, 0, none⟩ .nilIface).setCell ⟨w.heap.size + 1 + 1, 0, none⟩ (.iface 342 (.pointer (some (A 2))))).drew.cell? ⟨w.heap.size + 1, 0, none⟩ = some .nilIface := (World.cell?_setCell_other _ _ _ _ (by simp)).trans (World.cell?_setCell_same _ _ _ (u := .nilIface) b1)
    have cq : ((V.setCell ⟨w.heap.size + 1, 0, none⟩ .nilIface).setCell ⟨w.heap.size + 1 + 1, 0, none⟩ (.iface 342 (.pointer (some (A 2))))).drew.cell? ⟨w.heap.size + 1 + 1, 0, none⟩ = some (.iface 342 (.pointer (some (A 2)))) := World.cell?_setCell_same _ _ _ (u := .nilIface) y2
    have HKX : Hid _ := hKX
    clear hKX g0 g1 g2 n0
    go_region
    all_goals
      go_wp2_with fail
      generalize ((V.setCell ⟨w.heap.size + 1, 0, none⟩ .nilIface).setCell ⟨w.heap.size + 1 + 1, 0, none⟩ (.iface 342 (.pointer (some (A 2))))).drew = X at *
      refine leaves_cons (f := 70) (args := #[.pointer (some ⟨w.heap.size + 1, 0, none⟩), .pointer (some ⟨w.heap.size + 1 + 1, 0, none⟩)]) (by simp) (by simp [go_sem]) ?_
      refine (catchY_idle ⟨w.heap.size + 1, 0, none⟩ ⟨w.heap.size + 1 + 1, 0, none⟩ _).mono ?_
      rintro e u' w'' ⟨rfl, rfl, rfl⟩
      simp [Leaves, settle, results, Tryz.results45, go_sem, cp, cq]
      exact HKX.out
  · go_wp2_with fail
    generalize w1.setCell ⟨w.heap.size + 1 + 1, 0, none⟩ .nilIface = V at *
    have b1 : V.cell? ⟨w.heap.size + 1, 0, none⟩ = some .nilIface := by simp [World.cell?, g1]
    have b2 : V.cell? ⟨w.heap.size + 1 + 1, 0, none⟩ = some .nilIface := by simp [World.cell?, g2]
    have z1 : V.frozen? ⟨w.heap.size + 1, 0, none⟩ = false := by simp [World.frozen?, g1]
    have z2 : V.frozen? ⟨w.heap.size + 1 + 1, 0, none⟩ = false := by simp [World.frozen?, g2]
    have b1' : V.drew.cell? ⟨w.heap.size + 1, 0, none⟩ = some .nilIface := b1
    have b2' : V.drew.cell? ⟨w.heap.size + 1 + 1, 0, none⟩ = some .nilIface := b2
    have z1' : V.drew.frozen? ⟨w.heap.size + 1, 0, none⟩ = false := z1
    have hGV' : V.drew.cell? ⟨2, 0, none⟩ = some (.iface 342 (.pointer (some (A 2)))) := hGV
    have gS : (V.drew.setCell ⟨w.heap.size + 1, 0, none⟩ .nilIface).cell? ⟨2, 0, none⟩ = some (.iface 342 (.pointer (some (A 2)))) := (World.cell?_setCell_other _ _ _ _ (by first | (simp; done) | (simp; omega))).trans hGV
    have y2 : (V.drew.setCell ⟨w.heap.size + 1, 0, none⟩ .nilIface).cell? ⟨w.heap.size + 1 + 1, 0, none⟩ = some .nilIface := (World.cell?_setCell_other _ _ _ _ (by simp)).trans b2
    have x2 : (V.drew.setCell ⟨w.heap.size + 1, 0, none⟩ .nilIface).frozen? ⟨w.heap.size + 1 + 1, 0, none⟩ = false := (World.frozen?_setCell _ _ _ _).trans z2
    have hKX : Kept w ((V.setCell ⟨w.heap.size + 1, 0, none⟩ .nilIface).setCell ⟨w.heap.size + 1 + 1, 0, none⟩ (.iface 342 (.pointer (some (A 2))))).drew := ((hkV.put1 (by omega) 0 _).put1 (by omega) 0 _).trans (Kept.drew _)
    have cp : ((V.setCell ⟨w.heap.size + 1, 0, none⟩ .nilIface).setCell ⟨w.heap.size + 1 + 1, 0, none⟩ (.iface 342 (.pointer (some (A 2))))).drew.cell? ⟨w.heap.size + 1, 0, none⟩ = some .nilIface := (World.cell?_setCell_other _ _ _ _ (by simp)).trans (World.cell?_setCell_same _ _ _ (u := .nilIface) b1)
    have cq : ((V.setCell ⟨w.heap.size + 1, 0, none⟩ .nilIface).setCell ⟨w.heap.size + 1 + 1, 0, none⟩ (.iface 342 (.pointer (some (A 2))))).drew.cell? ⟨w.heap.size + 1 + 1, 0, none⟩ = some (.iface 342 (.pointer (some (A 2)))) := World.cell?_setCell_same _ _ _ (u := .nilIface) y2
    have HKX : Hid _ := hKX
    clear hKX g0 g1 g2 n0
    go_region
    all_goals
      go_wp2_with fail
      generalize ((V.setCell ⟨w.heap.size + 1, 0, none⟩ .nilIface).setCell ⟨w.heap.size + 1 + 1, 0, none⟩ (.iface 342 (.pointer (some (A 2))))).drew = X at *
      refine leaves_cons (f := 70) (args := #[.pointer (some ⟨w.heap.size + 1, 0, none⟩), .pointer (some ⟨w.heap.size + 1 + 1, 0, none⟩)]) (by simp) (by simp [go_sem]) ?_
      refine (catchY_idle ⟨w.heap.size + 1, 0, none⟩ ⟨w.heap.size + 1 + 1, 0, none⟩ _).mono ?_
      rintro e u' w'' ⟨rfl, rfl, rfl⟩
      simp [Leaves, settle, results, Tryz.results45, go_sem, cp, cq]
      exact HKX.out
set_option maxRecDepth 20000 in
set_option maxHeartbeats 4000000 in
theorem tot_env {A : Nat → Addr} {fl : Nat} {s : ByteArray} {em : Nat} {x : X} {n : ByteArray} {R : Value → World → Prop} (w : World) (hG : Glb A w) (hx : exO s = some x) (h1 : 1 ≤ fl) (h2 : fl ≤ 12) (hR : ∀ (v : Value) (w1 w2 : World), (∀ (k : Nat) (cs : Array Value) (t : TypeId), w1.heap[k]? = some (.cells cs t (0, 0)) → t ≠ 56 → w2.heap[k]? = some (.cells cs t (0, 0))) → R v w1 → R v w2)
    (HGV : ∀ W, Kept w W → Calls Tryz.prog 71 #[.map (some em)] W fun e w' => Kept W w' ∧ ∃ b why, e = .returned (.tuple #[.agg #[.pointer none, .map none], .iface 85 (.pointer (some ⟨b, 0, none⟩))]) ∧ w'.heap[b]? = some (.cells #[.string n, why] 89 (0, 0)) ∧ (why = .nilIface ∨ ∃ T u, why = .iface T u) ∧ R why w') :
    Calls Tryz.prog 45 #[.agg #[.int .i64 fl, .nilFunc], .string s, .map (some em)] w fun e w' => Kept w w' ∧ ∃ b why, e = .returned (.tuple #[.nilIface, .iface 85 (.pointer (some ⟨b, 0, none⟩))]) ∧ w'.heap[b]? = some (.cells #[.string n, why] 89 (0, 0)) ∧ (why = .nilIface ∨ ∃ T u, why = .iface T u) ∧ R why w' := by
  have hk1 : Kept w (((w.alloc (.cells #[.int .i64 fl, .nilFunc] 103)).alloc (.cells #[.nilIface] 77)).alloc (.cells #[.nilIface] 56)) := ((Kept.alloc _ _).trans (Kept.alloc _ _)).trans (Kept.alloc _ _)
  have e1 : (w.alloc (.cells #[.int .i64 fl, .nilFunc] 103)).heap.size = w.heap.size + 1 := by simp
  have e2 : ((w.alloc (.cells #[.int .i64 fl, .nilFunc] 103)).alloc (.cells #[.nilIface] 77)).heap.size = w.heap.size + 1 + 1 := by simp
  have hb0 : (((w.alloc (.cells #[.int .i64 fl, .nilFunc] 103)).alloc (.cells #[.nilIface] 77)).alloc (.cells #[.nilIface] 56)).heap[w.heap.size]? = some (.cells #[.int .i64 fl, .nilFunc] 103 (0, 0)) := ((Kept.alloc _ _).trans (Kept.alloc _ _)).blk (heap_alloc_new _ _)
  have hb1 : (((w.alloc (.cells #[.int .i64 fl, .nilFunc] 103)).alloc (.cells #[.nilIface] 77)).alloc (.cells #[.nilIface] 56)).heap[w.heap.size + 1]? = some (.cells #[.nilIface] 77 (0, 0)) := by
    rw [← e1]
    exact (Kept.alloc _ _).blk (heap_alloc_new _ _)
  have hb2 : (((w.alloc (.cells #[.int .i64 fl, .nilFunc] 103)).alloc (.cells #[.nilIface] 77)).alloc (.cells #[.nilIface] 56)).heap[w.heap.size + 1 + 1]? = some (.cells #[.nilIface] 56 (0, 0)) := by
    rw [← e2]
    exact heap_alloc_new _ _
  clear e1 e2
  go_enter_defers Tryz.func45, Tryz.ntmps45
  go_wp2_with fail
  generalize ((w.alloc (.cells #[.int .i64 fl, .nilFunc] 103)).alloc (.cells #[.nilIface] 77)).alloc (.cells #[.nilIface] 56) = W at *
  have HP : Hid _ := ex_good hx W (hG.kept hk1)
  refine Calls.mono HP.out ?_
  rintro e w1 ⟨hkp, T, u, rfl, hpx⟩
  have c0 := hkp.blk hb0
  have c1 := hkp.blk hb1
  have c2 := hkp.blk hb2
  have d0 : w1.cell? ⟨w.heap.size, 0, none⟩ = some (.int .i64 fl) := by simp [World.cell?, c0]
  have d2 : w1.cell? ⟨w.heap.size + 1 + 1, 0, none⟩ = some .nilIface := by simp [World.cell?, c2]
  have f2 : w1.frozen? ⟨w.heap.size + 1 + 1, 0, none⟩ = false := by simp [World.frozen?, c2]
  have HW1 : Hid _ := hk1.trans hkp
  have HPX : Hid _ := hpx
  clear HP hkp hpx hb0 hb1 hb2 hk1
  go_wp2_with fail
  have hk2 := Kept.again c2
  generalize w1.setCell ⟨w.heap.size + 1 + 1, 0, none⟩ .nilIface = w2 at *
  have hkw2 := HW1.out.trans hk2
  have c1 := hk2.blk c1
  have c2 := hk2.blk c2
  have HC : Hid _ := HGV w2 hkw2
  have HW2 : Hid _ := hkw2
  have HRR : Hid _ := hR
  clear hkw2 hk2 HW1 HPX hG d0 d2 f2 hx HGV hR c0
  refine Calls.mono HC.out ?_
  rintro e w3 ⟨hk3, eb, why, rfl, hb3, hwy, hR3⟩
  have c1 := hk3.blk c1
  have c2 := hk3.blk c2
  have hka : Kept w3 (w3.alloc (.cells #[.pointer none, .map none] 168)) := Kept.alloc _ _
  have c1 := hka.blk c1
  have c2 := hka.blk c2
  have d2 : (w3.alloc (.cells #[.pointer none, .map none] 168)).cell? ⟨w.heap.size + 1 + 1, 0, none⟩ = some .nilIface := by rw [World.cell?]; simp only [c2]; rfl
  have f2 : (w3.alloc (.cells #[.pointer none, .map none] 168)).frozen? ⟨w.heap.size + 1 + 1, 0, none⟩ = false := by rw [World.frozen?]; simp only [c2]; rfl
  have hb4 := hka.blk hb3
  have hkw4 := (HW2.out.trans hk3).trans hka
  have hR4 := HRR.out _ _ _ (fun k cs t h _ => hka.blk h) hR3
  clear hk3 hka hb3 hR3
  go_wp2_with fail
  have hne : ¬ eb = w.heap.size + 1 + 1 := fun z => by rw [z, c2] at hb4; simp at hb4
  have g1 : ((w3.alloc (.cells #[.pointer none, .map none] 168)).setCell ⟨w.heap.size + 1 + 1, 0, none⟩ (.iface 85 (.pointer (some ⟨eb, 0, none⟩)))).heap[w.heap.size + 1]? = some (.cells #[.nilIface] 77 (0, 0)) := (Below.heap_setCell _ _ _ _ (by show w.heap.size + 1 ≠ w.heap.size + 1 + 1; omega)).trans c1
  have g2 : ((w3.alloc (.cells #[.pointer none, .map none] 168)).setCell ⟨w.heap.size + 1 + 1, 0, none⟩ (.iface 85 (.pointer (some ⟨eb, 0, none⟩)))).heap[w.heap.size + 1 + 1]? = some (.cells #[.iface 85 (.pointer (some ⟨eb, 0, none⟩))] 56 (0, 0)) := set1_blk c2 _
  have hkV : Kept w ((w3.alloc (.cells #[.pointer none, .map none] 168)).setCell ⟨w.heap.size + 1 + 1, 0, none⟩ (.iface 85 (.pointer (some ⟨eb, 0, none⟩)))) := hkw4.put1 (by omega) 0 _
  have hbV : ((w3.alloc (.cells #[.pointer none, .map none] 168)).setCell ⟨w.heap.size + 1 + 1, 0, none⟩ (.iface 85 (.pointer (some ⟨eb, 0, none⟩)))).heap[eb]? = some (.cells #[.string n, why] 89 (0, 0)) := (Below.heap_setCell _ _ _ _ hne).trans hb4
  have hRV : R why ((w3.alloc (.cells #[.pointer none, .map none] 168)).setCell ⟨w.heap.size + 1 + 1, 0, none⟩ (.iface 85 (.pointer (some ⟨eb, 0, none⟩)))) := HRR.out _ _ _ (fun k cs t h ht => (Below.heap_setCell _ _ _ _ (fun z => by have z : k = w.heap.size + 1 + 1 := z; rw [z, c2] at h; simp at h; exact ht h.2.symm)).trans h) hR4
  have HRV : Hid _ := hRV
  have HBV : Hid _ := hbV
  have HRR2 : Hid _ := HRR.out
  generalize ((w3.alloc (.cells #[.pointer none, .map none] 168)).setCell ⟨w.heap.size + 1 + 1, 0, none⟩ (.iface 85 (.pointer (some ⟨eb, 0, none⟩)))) = V at *
  clear c1 c2 d2 f2 hb4 hR4 hRV hbV hkw4 HRR
  have b1 : V.cell? ⟨w.heap.size + 1, 0, none⟩ = some .nilIface := by simp [World.cell?, g1]
  have b2 : V.cell? ⟨w.heap.size + 1 + 1, 0, none⟩ = some (.iface 85 (.pointer (some ⟨eb, 0, none⟩))) := by simp [World.cell?, g2]
  have z1 : V.frozen? ⟨w.heap.size + 1, 0, none⟩ = false := by simp [World.frozen?, g1]
  have z2 : V.frozen? ⟨w.heap.size + 1 + 1, 0, none⟩ = false := by simp [World.frozen?, g2]
  have b1' : V.drew.cell? ⟨w.heap.size + 1, 0, none⟩ = some .nilIface := b1
  have b2' : V.drew.cell? ⟨w.heap.size + 1 + 1, 0, none⟩ = some (.iface 85 (.pointer (some ⟨eb, 0, none⟩))) := b2
  have z1' : V.drew.frozen? ⟨w.heap.size + 1, 0, none⟩ = false := z1
  have hq1 := Kept.again g1
  have hq2 := Kept.again (hq1.blk g2)
  have y2 : (V.drew.setCell ⟨w.heap.size + 1, 0, none⟩ .nilIface).cell? ⟨w.heap.size + 1 + 1, 0, none⟩ = some (.iface 85 (.pointer (some ⟨eb, 0, none⟩))) := (World.cell?_setCell_other _ _ _ _ (by simp)).trans b2
  have x2 : (V.drew.setCell ⟨w.heap.size + 1, 0, none⟩ .nilIface).frozen? ⟨w.heap.size + 1 + 1, 0, none⟩ = false := (World.frozen?_setCell _ _ _ _).trans z2
  have hKX : Kept V ((V.setCell ⟨w.heap.size + 1, 0, none⟩ .nilIface).setCell ⟨w.heap.size + 1 + 1, 0, none⟩ (.iface 85 (.pointer (some ⟨eb, 0, none⟩)))).drew := (hq1.trans hq2).trans (Kept.drew _)
  have hX1 := hKX.blk g1
  have hX2 := hKX.blk g2
  have HKX : Hid _ := hKX
  clear hq1 hq2 hKX g1 g2
  go_region
  all_goals
    go_wp2_with fail
    generalize ((V.setCell ⟨w.heap.size + 1, 0, none⟩ .nilIface).setCell ⟨w.heap.size + 1 + 1, 0, none⟩ (.iface 85 (.pointer (some ⟨eb, 0, none⟩)))).drew = X at *
    have cp : X.cell? ⟨w.heap.size + 1, 0, none⟩ = some .nilIface := by simp [World.cell?, hX1]
    have cq : X.cell? ⟨w.heap.size + 1 + 1, 0, none⟩ = some (.iface 85 (.pointer (some ⟨eb, 0, none⟩))) := by simp [World.cell?, hX2]
    refine leaves_cons (f := 70) (args := #[.pointer (some ⟨w.heap.size + 1, 0, none⟩), .pointer (some ⟨w.heap.size + 1 + 1, 0, none⟩)]) (by simp) (by simp [go_sem]) ?_
    refine (catchY_idle ⟨w.heap.size + 1, 0, none⟩ ⟨w.heap.size + 1 + 1, 0, none⟩ _).mono ?_
    rintro e u' w'' ⟨rfl, rfl, rfl⟩
    simp [Leaves, settle, results, Tryz.results45, go_sem, cp, cq]
    exact ⟨hkV.trans HKX.out, why, HKX.out.blk HBV.out, hwy, HRR2.out _ _ _ (fun k cs t h _ => HKX.out.blk h) HRV.out⟩
end Go.Proofs.YtleenphlgbklmabGreatDoor

namespace Go.Proofs.YtleenphlgbklmabGreatDoor
open Go.RowKit

set_option maxRecDepth 20000 in
set_option maxHeartbeats 4000000 in
theorem pl_infer5 {w : World} {kv : List (ByteArray × ByteArray)} {nv tv : Value} {s t ss : ByteArray} {fl : Int} {what loc fi fj : Int} (hn : RowS w nv (kv.map Prod.fst)) (ht : RowS w tv (kv.map Prod.snd)) (hd : (kv.map Prod.fst).Nodup) (hl : kv.length ≤ 1000)
    (HI : ∀ W em, Kept w W → SM W em kv → Calls Tryz.prog 30 #[.string s, .map (some em), .int .i64 fl] W fun e w' => Kept W w' ∧ ∃ er, e = .returned (.tuple #[.string t, er]) ∧ (er = .nilIface ∨ ∃ T u, er = .iface T u) ∧ ∀ w2, Kept w' w2 → Calls Tryz.prog 22 #[er] w2 fun e w'' => e = .returned (faultV5 what loc ss fi fj) ∧ Kept w2 w'') :
    Calls Tryz.prog 20 #[.string s, nv, tv, .int .i64 fl] w fun e w' => e = .returned (.tuple #[.string t, faultV5 what loc ss fi fj, .bool false]) ∧ Kept w w' := by
  have hk0 : Kept w (w.alloc (.cells #[.int .i64 0, .int .i64 0, .string { data := #[] }, .int .i64 0, .int .i64 0] 23)) := Kept.alloc _ _
  have hb0 := heap_alloc_new w (.cells #[.int .i64 0, .int .i64 0, .string { data := #[] }, .int .i64 0, .int .i64 0] 23)
  have HI' : Hid _ := HI
  have HD : Hid _ := hd
  have hn' := hn
  have ht' := ht
  obtain ⟨ao, cap, g, rfl, _⟩ := hn
  obtain ⟨ao2, cap2, g2, rfl, _⟩ := ht
  simp only [List.length_map] at hn' ht' ⊢
  have HN : Hid _ := hn'
  have HT : Hid _ := ht'
  clear HI hd hn' ht'
  go_enter Tryz.func20, Tryz.ntmps20
  go_wp2_with fail
  generalize w.alloc (.cells #[.int .i64 0, .int .i64 0, .string { data := #[] }, .int .i64 0, .int .i64 0] 23) = W at *
  refine Calls.mono (env_sx (RowS.kept HN.out hk0) (RowS.kept HT.out hk0) HD.out hl) ?_
  rintro e w1 ⟨m1, rfl, hs1, hk1, _⟩
  have hkw1 := hk0.trans hk1
  have hb1 := hk1.blk hb0
  have HS1 : Hid _ := hs1
  have HK1 : Hid _ := hkw1
  have HB1 : Hid _ := hb1
  have HC : Hid _ := HI'.out w1 m1 hkw1 hs1
  clear hs1 hk1 hkw1 hb1 hb0 hk0 HI'
  go_wp2_with fail
  refine Calls.mono HC.out ?_
  rintro e w2 ⟨hk2, er, rfl, her, hf⟩
  have HS2 : Hid _ := (⟨hk2.blk HS1.out.mp, HS1.out.nd⟩ : SM w2 m1 kv)
  have HK2 : Hid _ := HK1.out.trans hk2
  have HB2 : Hid _ := hk2.blk HB1.out
  have HF : Hid _ := hf
  clear hk2 hf HC HK1 HB1 HS1
  rcases her with rfl | ⟨T, u, rfl⟩
  all_goals
    go_wp2_with fail
    refine Calls.mono (HF.out w2 (Kept.refl _)) ?_
    rintro e w3 ⟨rfl, hk3⟩
    have HK3 : Hid _ := HK2.out.trans hk3
    have HB3 : Hid _ := hk3.blk HB2.out
    have HS3 : Hid _ := (⟨hk3.blk HS2.out.mp, HS2.out.nd⟩ : SM w3 m1 kv)
    have HE : Hid _ := env_sx (RowS.kept HN.out HK3.out) (RowS.kept HT.out HK3.out) HD.out hl
    simp only [List.length_map] at HE
    clear hk3 HF HK2 HB2 HS2
    unfold faultV5
    go_wp2_with fail
    refine Calls.mono HE.out ?_
    rintro e w4 ⟨m2, rfl, hs4, hk4, _⟩
    have HK4 : Hid _ := HK3.out.trans hk4
    have HB4 : Hid _ := hk4.blk HB3.out
    have HQ : Hid _ := mequal_sx (⟨hk4.blk HS3.out.mp, HS3.out.nd⟩ : SM w4 m1 kv) hs4
    clear hs4 hk4 HE HK3 HB3 HS3
    go_wp2_with fail
    refine Calls.mono HQ.out ?_
    rintro e w5 ⟨rfl, hk5⟩
    have hK := HK4.out.trans hk5
    have hb2 := hk5.blk HB4.out
    clear HQ hk5 HK4 HB4
    have c0 : w5.cell? ⟨w.heap.size, 0, none⟩ = some (.int .i64 0) := by simp [World.cell?, hb2]
    have c1 : w5.cell? ⟨w.heap.size, 1, none⟩ = some (.int .i64 0) := by simp [World.cell?, hb2]
    have c2 : w5.cell? ⟨w.heap.size, 2, none⟩ = some (.string { data := #[] }) := by simp [World.cell?, hb2]
    have c3 : w5.cell? ⟨w.heap.size, 3, none⟩ = some (.int .i64 0) := by simp [World.cell?, hb2]
    have c4 : w5.cell? ⟨w.heap.size, 4, none⟩ = some (.int .i64 0) := by simp [World.cell?, hb2]
    have f0 : ∀ j, w5.frozen? ⟨w.heap.size, j, none⟩ = false := fun j => by simp [World.frozen?, hb2]
    go_wp2_with fail
    obtain ⟨w6, hw6⟩ : ∃ w6, w6 = ((((w5.setCell ⟨w.heap.size, 0, none⟩ (.int .i64 what)).setCell ⟨w.heap.size, 1, none⟩ (.int .i64 loc)).setCell ⟨w.heap.size, 2, none⟩ (.string ss)).setCell ⟨w.heap.size, 3, none⟩ (.int .i64 fi)).setCell ⟨w.heap.size, 4, none⟩ (.int .i64 fj) := ⟨_, rfl⟩
    have hF : w6.heap[w.heap.size]? = some (.cells #[.int .i64 what, .int .i64 loc, .string ss, .int .i64 fi, .int .i64 fj] 23 (0, 0)) := by
      rw [hw6]
      simp [World.setCell, hb2, Array.getElem?_modify]
    have hKF : Kept w w6 := by
      rw [hw6]
      refine ⟨hK.1, hK.2, by simpa using hK.3, fun q hq => ?_⟩
      have e : ∀ (W : World) (j : Nat) (v : Value), (W.setCell ⟨w.heap.size, j, none⟩ v).heap[q]? = W.heap[q]? := fun W j v => Below.heap_setCell _ _ _ q (by intro z; simp at z; omega)
      exact (e _ _ _).trans ((e _ _ _).trans ((e _ _ _).trans ((e _ _ _).trans ((e _ _ _).trans (hK.4 q hq)))))
    rw [← hw6]
    clear hw6
    have d0 : w6.cell? ⟨w.heap.size, 0, none⟩ = some (.int .i64 what) := by simp [World.cell?, hF]
    have d1 : w6.cell? ⟨w.heap.size, 1, none⟩ = some (.int .i64 loc) := by simp [World.cell?, hF]
    have d2 : w6.cell? ⟨w.heap.size, 2, none⟩ = some (.string ss) := by simp [World.cell?, hF]
    have d3 : w6.cell? ⟨w.heap.size, 3, none⟩ = some (.int .i64 fi) := by simp [World.cell?, hF]
    have d4 : w6.cell? ⟨w.heap.size, 4, none⟩ = some (.int .i64 fj) := by simp [World.cell?, hF]
    exact bodyPost_ret (v := .tuple #[.string t, .agg #[.int .i64 what, .int .i64 loc, .string ss, .int .i64 fi, .int .i64 fj], .bool false]) (by simp [results, Tryz.results20, go_sem, d0, d1, d2, d3, d4]) rfl ⟨rfl, hKF⟩
/-- what pl_infer5 asks of the program's Infer. -/
def HiE (w : World) (kv : List (ByteArray × ByteArray)) (s : ByteArray) (fl : Int) (t : ByteArray) (fv : Value) : Prop := ∀ W em, Kept w W → SM W em kv → Calls Tryz.prog 30 #[.string s, .map (some em), .int .i64 fl] W fun e w' => Kept W w' ∧ ∃ er, e = .returned (.tuple #[.string t, er]) ∧ (er = .nilIface ∨ ∃ T u, er = .iface T u) ∧ ∀ w2, Kept w' w2 → Calls Tryz.prog 22 #[er] w2 fun e w'' => e = .returned fv ∧ Kept w2 w''
theorem hi_err {w : World} {kv : List (ByteArray × ByteArray)} {s : ByteArray} {fl : Int} {fv : Value} (h : ∀ W em, Kept w W → SM W em kv → Calls Tryz.prog 45 #[.agg #[.int .i64 fl, .nilFunc], .string s, .map (some em)] W fun e w' => ∃ T z, e = .returned (.tuple #[.nilIface, .iface T z]) ∧ Kept W w' ∧ ∀ w2, Kept w' w2 → Calls Tryz.prog 22 #[.iface T z] w2 fun e w'' => e = .returned fv ∧ Kept w2 w'') : HiE w kv s fl { data := #[] } fv := by
  intro W em hk hS
  refine (infer_del s em fl W (fun v w' => ∃ T z, v = .tuple #[.string { data := #[] }, .iface T z] ∧ Kept W w' ∧ ∀ w2, Kept w' w2 → Calls Tryz.prog 22 #[.iface T z] w2 fun e w'' => e = .returned fv ∧ Kept w2 w'') ((watch_err s em fl W (fun T z w' => Kept W w' ∧ ∀ w2, Kept w' w2 → Calls Tryz.prog 22 #[.iface T z] w2 fun e w'' => e = .returned fv ∧ Kept w2 w'') ((h W em hk hS).mono (fun e w' ⟨T, z, he, hk, hf⟩ => ⟨T, z, he, hk, hf⟩))).mono ?_)).mono ?_
  · rintro e w' ⟨T, z, rfl, HR⟩
    exact ⟨_, _, rfl, T, z, rfl, HR.out⟩
  · rintro e w' ⟨v, rfl, T, z, rfl, hk, hf⟩
    exact ⟨hk, _, rfl, .inr ⟨_, _, rfl⟩, hf⟩
theorem hi_long {A : Nat → Addr} {w : World} (hG : Glb A w) {kv : List (ByteArray × ByteArray)} {s : ByteArray} {fl : Int} (hs : 300 < s.size) (hm : s.size ≤ 1000000) : HiE w kv s fl { data := #[] } (faultV5 1 0 { data := #[] } 0 0) :=
  hi_err (fun W em hk _ => (tot_long W (hG.kept hk) hs (by omega)).mono (fun e w' ⟨he, hk'⟩ => ⟨_, _, he, hk', fun w2 hk2 => fault_sen w2 (((hG.kept hk).kept hk').kept hk2) 0 (by omega)⟩))
theorem hi_arg {A : Nat → Addr} {w : World} (hG : Glb A w) {kv : List (ByteArray × ByteArray)} {s : ByteArray} {fl : Int} {x : X} (hx : exO s = some x) (hfl : fl < 1 ∨ (¬ fl < 1 ∧ 12 < fl)) : HiE w kv s fl { data := #[] } (faultV5 6 0 { data := #[] } 0 0) :=
  hi_err (fun W em hk _ => (tot_arg W (hG.kept hk) hx hfl).mono (fun e w' ⟨he, hk'⟩ => ⟨_, _, he, hk', fun w2 hk2 => fault_sen w2 (((hG.kept hk).kept hk').kept hk2) 2 (by omega)⟩))
end Go.Proofs.YtleenphlgbklmabGreatDoor

namespace Go.Proofs.YtleenphlgbklmabGreatDoor
open Go.RowKit

section
variable {A : Nat → Addr} {w : World} {kv rest : List (ByteArray × ByteArray)} {n ty s : ByteArray} {fl : Nat} {x : X}
theorem hi_env {iw il : Int} {R : Value → World → Prop} (hG : Glb A w) (hx : exO s = some x) (h1 : 1 ≤ fl) (h2 : fl ≤ 12) (hl : kv.length ≤ 1000) (hsz : ∀ y, y ∈ kv → y.1.size ≤ 1000) (hp : ((n, ty) :: rest).Perm kv) (hso : (((n, ty) :: rest).map fun y => y.1.data.toList).Pairwise (fun x y => decide (x ≤ y) = true))
    (hR : ∀ (v : Value) (w1 w2 : World), (∀ (k : Nat) (cs : Array Value) (t : TypeId), w1.heap[k]? = some (.cells cs t (0, 0)) → t ≠ 56 → w2.heap[k]? = some (.cells cs t (0, 0))) → R v w1 → R v w2)
    (h : (isNameF n = false ∧ ∀ w', R .nilIface w') ∨ (isNameF n = true ∧ ∀ W, Kept w W → Calls Tryz.prog 35 #[.string ty] W fun e w' => Kept W w' ∧ ∃ T u, e = .returned (.tuple #[.nilIface, .iface T u]) ∧ R (.iface T u) w'))
    (hF : ∀ (W : World) (b : Nat) (why : Value), Glb A W → W.heap[b]? = some (.cells #[.string n, why] 89 (0, 0)) → R why W → Calls Tryz.prog 22 #[.iface 85 (.pointer (some ⟨b, 0, none⟩))] W fun e w' => e = .returned (faultV5 5 0 n iw il) ∧ Kept W w') : HiE w kv s fl { data := #[] } (faultV5 5 0 n iw il) :=
  hi_err (fun W em hk hS => (tot_env (R := R) W (hG.kept hk) hx h1 h2 hR (fun W2 hk2 => given_bad (R := R) ⟨hk2.blk hS.mp, hS.nd⟩ hl hsz hp hso (fun v w1 w2 k hv => hR v w1 w2 (fun q cs t hq _ => k.blk hq) hv) (h.imp id (fun ⟨a, c⟩ => ⟨a, fun W3 hk3 => c W3 ((hk.trans hk2).trans hk3)⟩)))).mono (fun e w' ⟨hk', b, why, he, hb, _, hr⟩ =>
    ⟨_, _, he, hk', fun w2 hk2 => hF w2 b why (((hG.kept hk).kept hk').kept hk2) (hk2.blk hb) (hR why w' w2 (fun q cs t hq _ => hk2.blk hq) hr)⟩))
theorem hi_env_nil (hG : Glb A w) (hx : exO s = some x) (h1 : 1 ≤ fl) (h2 : fl ≤ 12) (hl : kv.length ≤ 1000) (hsz : ∀ y, y ∈ kv → y.1.size ≤ 1000) (hp : ((n, ty) :: rest).Perm kv) (hso : (((n, ty) :: rest).map fun y => y.1.data.toList).Pairwise (fun x y => decide (x ≤ y) = true)) (hn : isNameF n = false) : HiE w kv s fl { data := #[] } (faultV5 5 0 n 0 0) :=
  hi_env (R := fun v _ => v = .nilIface) hG hx h1 h2 hl hsz hp hso (fun _ _ _ _ h => h) (.inl ⟨hn, fun _ => rfl⟩) (fun W b why hg hb hr => by
    subst hr
    exact fault_env_nil W hg b n hb)
theorem hi_env_long (hG : Glb A w) (hx : exO s = some x) (h1 : 1 ≤ fl) (h2 : fl ≤ 12) (hl : kv.length ≤ 1000) (hsz : ∀ y, y ∈ kv → y.1.size ≤ 1000) (hp : ((n, ty) :: rest).Perm kv) (hso : (((n, ty) :: rest).map fun y => y.1.data.toList).Pairwise (fun x y => decide (x ≤ y) = true)) (hn : isNameF n = true) (hs : 300 < ty.size) (hm : ty.size ≤ 1000000) : HiE w kv s fl { data := #[] } (faultV5 5 0 n 1 0) :=
  hi_env (R := fun v _ => v = .iface 342 (.pointer (some (A 0)))) hG hx h1 h2 hl hsz hp hso (fun _ _ _ _ h => h) (.inr ⟨hn, fun W hk => (ptype_long ty W (hG.kept hk) hs (by omega)).mono (fun e w' ⟨he, hk'⟩ => ⟨hk', _, _, he, rfl⟩)⟩) (fun W b why hg hb hr => by
    subst hr
    exact fault_env_in W hg b n (fun V hk => fault_sen V (hg.kept hk) 0 (by omega)) (fun V hk => is_wrap_es V (hk.blk hb)) hb)
theorem hi_env_syn {t : Ty} {names : List ByteArray} {K l : Nat} {B : Int} (hG : Glb A w) (hx : exO s = some x) (h1 : 1 ≤ fl) (h2 : fl ≤ 12) (hl : kv.length ≤ 1000) (hsz : ∀ y, y ∈ kv → y.1.size ≤ 1000) (hp : ((n, ty) :: rest).Perm kv) (hso : (((n, ty) :: rest).map fun y => y.1.data.toList).Pairwise (fun x y => decide (x ≤ y) = true)) (hn : isNameF n = true) (hs : ty.size ≤ 300) (hM : arrowM (lexT ty) (2 * (lexT ty).length + 2) [] 0 (-1) = some (t, names, K, B)) (hB : needB (lexT ty) { data := #[101, 110, 100] } K B = (l : Int)) : HiE w kv s fl { data := #[] } (faultV5 5 0 n 2 l) :=
  hi_env (R := fun v w' => ∃ b : Nat, v = .iface 83 (.pointer (some ⟨b, 0, none⟩)) ∧ w'.heap[b]? = some (.cells #[.int .i64 l] 94 (0, 0))) hG hx h1 h2 hl hsz hp hso (fun v w1 w2 hk ⟨b, e1, e2⟩ => ⟨b, e1, hk b _ _ e2 (by decide)⟩) (.inr ⟨hn, fun W hk => by
    have hE : PEnv ty tyWords (lexT ty) := ⟨hs, tyWordsOk, by unfold lexT; rw [kinds_same]⟩
    refine (ptype_any hE W (hG.kept hk) _ t names K B hM).mono ?_
    rintro e w' ⟨hk', h⟩
    rcases h with ⟨b, l', e1, e2, e3⟩ | ⟨e1, _⟩ | ⟨e1, _⟩
    · have : l' = l := by omega
      subst this
      exact ⟨hk', _, _, e2, b, rfl, e3⟩
    · omega
    · omega⟩) (fun W b why hg hb hr => by
    obtain ⟨c, rfl, hc⟩ := hr
    exact fault_env_in W hg b n (fun V hk => (fault_syn V (hg.kept hk) ⟨c, 0, none⟩ l (by simp [World.cell?, hk.blk hc])).mono (fun e w'' ⟨a1, a2⟩ => ⟨a1, Kept.below a2⟩)) (fun V hk => is_wrap_syn V (hk.blk hb)) hb)
end
end Go.Proofs.YtleenphlgbklmabGreatDoor
