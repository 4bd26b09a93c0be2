import Derived.Test.YtleenphlgbklmaaGreatDoorRPCanon
import Derived.Test.YtleenphlgbklmaaGreatDoorRWParsed
import Derived.Test.YtleenphlgbklmaaGreatDoorRWCanon
set_option linter.unusedVariables false
set_option linter.unusedSimpArgs false
namespace Go.Proofs.YtleenphlgbklmaaGreatDoor
open Go.RowKit

set_option maxRecDepth 20000 in
set_option maxHeartbeats 2000000 in
theorem canons_fault (s : ByteArray) (w : World) (what loc : Int) (hw : 0 < what) (HP : Hid (∀ W, Kept w W → Calls Tryz.prog 18 #[.string s] W fun e w' => e = .returned (.tuple #[.string { data := #[] }, faultVal what loc { data := #[] }]) ∧ Kept W w')) (HR : Hid (∀ W, Kept w W → Calls Tryz.prog 19 #[.string s] W fun e w' => e = .returned (.tuple #[.pointer none, .slice none 0 0, faultV what loc]) ∧ Kp (fun _ => False) W w')) :
    Calls Tryz.prog 4 #[.string s] w fun e w' => e = .returned (.bool true) ∧ Kept w w' := by
  go_enter Tryz.func4, Tryz.ntmps4
  go_wp2_with fail
  refine Calls.mono (HP.out _ (Kept.refl _)) ?_
  rintro e w1 ⟨rfl, hk1⟩
  unfold faultVal
  go_wp2_with fail
  have hkg : Kept w1 (w1.alloc (.cells #[.int .i64 what, .int .i64 loc, .string { data := #[] }, .int .i64 0, .int .i64 0] 23)) := Kept.alloc _ _
  have hbg : (w1.alloc (.cells #[.int .i64 what, .int .i64 loc, .string { data := #[] }, .int .i64 0, .int .i64 0] 23)).heap[w1.heap.size]? = some (.cells #[.int .i64 what, .int .i64 loc, .string { data := #[] }, .int .i64 0, .int .i64 0] 23 (0, 0)) := heap_alloc_new _ _
  generalize w1.alloc (.cells #[.int .i64 what, .int .i64 loc, .string { data := #[] }, .int .i64 0, .int .i64 0] 23) = w2 at *
  have hK2 := hk1.trans hkg
  refine Calls.mono (HR.out w2 hK2) ?_
  rintro e w3 ⟨rfl, hk3⟩
  unfold faultV
  have hk3' := Kept.kp hk3
  have hbg3 := hk3'.blk hbg
  have hK3 := hK2.trans hk3'
  have g0 : w3.cell? ⟨w1.heap.size, 0, none⟩ = some (.int .i64 what) := by simp [World.cell?, hbg3]
  have g1 : w3.cell? ⟨w1.heap.size, 1, none⟩ = some (.int .i64 loc) := by simp [World.cell?, hbg3]
  have g2 : w3.cell? ⟨w1.heap.size, 2, none⟩ = some (.string { data := #[] }) := by simp [World.cell?, hbg3]
  have g3 : w3.cell? ⟨w1.heap.size, 3, none⟩ = some (.int .i64 0) := by simp [World.cell?, hbg3]
  have g4 : w3.cell? ⟨w1.heap.size, 4, none⟩ = some (.int .i64 0) := by simp [World.cell?, hbg3]
  clear HP HR hkg hk3 hk3' hk1 hK2
  have hb4 := (Kept.alloc w3 (.cells #[.int .i64 what, .int .i64 loc, .string { data := #[] }, .int .i64 0, .int .i64 0] 27)).blk hbg3
  clear hbg hbg3
  go_wp2_with fail
  have hkf : Kept w3 (w3.alloc (.cells #[.int .i64 what, .int .i64 loc, .string { data := #[] }, .int .i64 0, .int .i64 0] 27)) := Kept.alloc _ _
  have hbf : (w3.alloc (.cells #[.int .i64 what, .int .i64 loc, .string { data := #[] }, .int .i64 0, .int .i64 0] 27)).heap[w3.heap.size]? = some (.cells #[.int .i64 what, .int .i64 loc, .string { data := #[] }, .int .i64 0, .int .i64 0] 27 (0, 0)) := heap_alloc_new _ _
  generalize w3.alloc (.cells #[.int .i64 what, .int .i64 loc, .string { data := #[] }, .int .i64 0, .int .i64 0] 27) = w4 at *
  have hK4 := hK3.trans hkf
  clear g0 g1 g2 g3 g4
  have g0 : w4.cell? ⟨w1.heap.size, 0, none⟩ = some (.int .i64 what) := by simp [World.cell?, hb4]
  have g1 : w4.cell? ⟨w1.heap.size, 1, none⟩ = some (.int .i64 loc) := by simp [World.cell?, hb4]
  have g2 : w4.cell? ⟨w1.heap.size, 2, none⟩ = some (.string { data := #[] }) := by simp [World.cell?, hb4]
  have g3 : w4.cell? ⟨w1.heap.size, 3, none⟩ = some (.int .i64 0) := by simp [World.cell?, hb4]
  have g4 : w4.cell? ⟨w1.heap.size, 4, none⟩ = some (.int .i64 0) := by simp [World.cell?, hb4]
  have f0 : w4.cell? ⟨w3.heap.size, 0, none⟩ = some (.int .i64 what) := by simp [World.cell?, hbf]
  have f1 : w4.cell? ⟨w3.heap.size, 1, none⟩ = some (.int .i64 loc) := by simp [World.cell?, hbf]
  have f2 : w4.cell? ⟨w3.heap.size, 2, none⟩ = some (.string { data := #[] }) := by simp [World.cell?, hbf]
  have f3 : w4.cell? ⟨w3.heap.size, 3, none⟩ = some (.int .i64 0) := by simp [World.cell?, hbf]
  have f4 : w4.cell? ⟨w3.heap.size, 4, none⟩ = some (.int .i64 0) := by simp [World.cell?, hbf]
  have HC : Hid (∀ w5, Below w4.drew.heap.size w4.drew w5 → (w5.cell? ⟨w1.heap.size, 0, none⟩ = some (.int .i64 what) ∧ w5.cell? ⟨w1.heap.size, 1, none⟩ = some (.int .i64 loc) ∧ w5.cell? ⟨w1.heap.size, 2, none⟩ = some (.string { data := #[] }) ∧ w5.cell? ⟨w1.heap.size, 3, none⟩ = some (.int .i64 0) ∧ w5.cell? ⟨w1.heap.size, 4, none⟩ = some (.int .i64 0) ∧ w5.cell? ⟨w3.heap.size, 0, none⟩ = some (.int .i64 what) ∧ w5.cell? ⟨w3.heap.size, 1, none⟩ = some (.int .i64 loc) ∧ w5.cell? ⟨w3.heap.size, 2, none⟩ = some (.string { data := #[] }) ∧ w5.cell? ⟨w3.heap.size, 3, none⟩ = some (.int .i64 0) ∧ w5.cell? ⟨w3.heap.size, 4, none⟩ = some (.int .i64 0)) ∧ Kept w w5) := fun w5 hB => by
    have cc : ∀ (a : Addr) (v : Value), w4.cell? a = some v → w5.cell? a = some v := fun a v h => (hB.cell (World.block_lt_of_cell? w4 a h)).trans h
    exact ⟨⟨cc _ _ g0, cc _ _ g1, cc _ _ g2, cc _ _ g3, cc _ _ g4, cc _ _ f0, cc _ _ f1, cc _ _ f2, cc _ _ f3, cc _ _ f4⟩, hK4.trans (Kept.below (w := w4) ⟨hB.os, hB.tape, hB.output, hB.size, hB.block⟩)⟩
  clear hb4 hbf hkf hK3
  go_region_held3 (fun w' => w'.cell? ⟨w1.heap.size, 0, none⟩ = some (.int .i64 what) ∧ w'.cell? ⟨w1.heap.size, 1, none⟩ = some (.int .i64 loc) ∧ w'.cell? ⟨w1.heap.size, 2, none⟩ = some (.string { data := #[] }) ∧ w'.cell? ⟨w1.heap.size, 3, none⟩ = some (.int .i64 0) ∧ w'.cell? ⟨w1.heap.size, 4, none⟩ = some (.int .i64 0) ∧ w'.cell? ⟨w3.heap.size, 0, none⟩ = some (.int .i64 what) ∧ w'.cell? ⟨w3.heap.size, 1, none⟩ = some (.int .i64 loc) ∧ w'.cell? ⟨w3.heap.size, 2, none⟩ = some (.string { data := #[] }) ∧ w'.cell? ⟨w3.heap.size, 3, none⟩ = some (.int .i64 0) ∧ w'.cell? ⟨w3.heap.size, 4, none⟩ = some (.int .i64 0)) (go_keep) (first | (go_at_call 16; refine (said_any _ _ _ _ _ _).mono ?_; rintro e w5 ⟨rfl, hB⟩; obtain ⟨⟨x0, x1, x2, x3, x4, y0, y1, y2, y3, y4⟩, hK5⟩ := HC.out w5 hB; clear hB))
  all_goals
    go_wp2
    go_ret
    exact ⟨rfl, hK5⟩
set_option maxRecDepth 20000 in
set_option maxHeartbeats 2000000 in
theorem canons_ok (s tx : ByteArray) (w : World) (HP : Hid (∀ W, Kept w W → Calls Tryz.prog 18 #[.string s] W fun e w' => e = .returned (.tuple #[.string tx, faultVal 0 0 { data := #[] }]) ∧ Kept W w')) (HR : Hid (∀ W, Kept w W → Calls Tryz.prog 19 #[.string s] W fun e w' => ∃ (b : Nat) (ao : Option Addr) (nl nc : Nat), e = .returned (.tuple #[.pointer (some ⟨b, 0, none⟩), .slice ao nl nc, faultV 0 0]) ∧ Kp (fun _ => False) W w' ∧ Hid (∀ W', XK w' W' → Calls Tryz.prog 20 #[.pointer (some ⟨b, 0, none⟩)] W' fun e w'' => e = .returned (.string tx) ∧ Kept W' w''))) :
    Calls Tryz.prog 4 #[.string s] w fun e w' => e = .returned (.bool true) ∧ Kept w w' := by
  go_enter Tryz.func4, Tryz.ntmps4
  go_wp2_with fail
  refine Calls.mono (HP.out _ (Kept.refl _)) ?_
  rintro e w1 ⟨rfl, hk1⟩
  unfold faultVal
  go_wp2_with fail
  have hkg : Kept w1 (w1.alloc (.cells #[.int .i64 0, .int .i64 0, .string { data := #[] }, .int .i64 0, .int .i64 0] 23)) := Kept.alloc _ _
  have hbg : (w1.alloc (.cells #[.int .i64 0, .int .i64 0, .string { data := #[] }, .int .i64 0, .int .i64 0] 23)).heap[w1.heap.size]? = some (.cells #[.int .i64 0, .int .i64 0, .string { data := #[] }, .int .i64 0, .int .i64 0] 23 (0, 0)) := heap_alloc_new _ _
  generalize w1.alloc (.cells #[.int .i64 0, .int .i64 0, .string { data := #[] }, .int .i64 0, .int .i64 0] 23) = w2 at *
  have hK2 := hk1.trans hkg
  refine Calls.mono (HR.out w2 hK2) ?_
  rintro e w3 ⟨b, ao, nl, nc, rfl, hk3, HT⟩
  unfold faultV
  have hk3' := Kept.kp hk3
  have hbg3 := hk3'.blk hbg
  have hK3 := hK2.trans hk3'
  have g0 : w3.cell? ⟨w1.heap.size, 0, none⟩ = some (.int .i64 0) := by simp [World.cell?, hbg3]
  clear HP HR hkg hk3 hk3' hk1 hK2
  have hkf : Kept w3 (w3.alloc (.cells #[.int .i64 0, .int .i64 0, .string { data := #[] }, .int .i64 0, .int .i64 0] 27)) := Kept.alloc _ _
  have HK4 : Hid _ := hK3.trans hkf
  have HT4 : Hid _ := HT.out (w3.alloc (.cells #[.int .i64 0, .int .i64 0, .string { data := #[] }, .int .i64 0, .int .i64 0] 27)) ⟨by simp, fun q hq => Below.heap_alloc _ _ _ hq⟩
  have g0' : (w3.alloc (.cells #[.int .i64 0, .int .i64 0, .string { data := #[] }, .int .i64 0, .int .i64 0] 27)).cell? ⟨w1.heap.size, 0, none⟩ = some (.int .i64 0) := hkf.cell g0
  have hl13 := lt_of_block hbg3
  clear hbg hbg3 HT
  go_wp2_with fail
  refine Calls.mono HT4.out ?_
  rintro e w5 ⟨rfl, hk5⟩
  have HK5 : Hid (Kept w w5) := HK4.out.trans hk5
  clear hk5 HT4 HK4 hkf g0' g0
  go_wp2
  go_ret
  exact ⟨by simp, HK5.out⟩
theorem kinds_same : kkinds = tyWords := rfl
/-- 'Canons' answers true. -/
theorem canons_any {A : Nat → Addr} (s : ByteArray) (w : World) (hG : Glb A w) (hm : s.size ≤ 9223372036854775807) : Calls Tryz.prog 4 #[.string s] w fun e w' => e = .returned (.bool true) ∧ Kept w w' := by
  by_cases hs : 300 < s.size
  · exact canons_fault s w 1 0 (by omega) (fun W hk => plcanon_long s W (hG.kept hk) hs hm) (fun W _ => parsed_long s W hs hm)
  · have hs : s.size ≤ 300 := by omega
    have hE : PEnv s tyWords (lexT s) := ⟨hs, tyWordsOk, by unfold lexT; rw [kinds_same]⟩
    have hlp := (lexT0 hE).1
    obtain ⟨⟨t, names, K, B⟩, hM⟩ := (tread_total (lexT s) hE.good (lexT s).length).1 [] 0 (-1) _ hlp (by omega) (Nat.le_refl _)
    have hlen : (lexT s).length ≤ 301 := by
      have := toks_len s kkinds (s.size + 1) 0
      unfold lexT
      omega
    have hneg : needB (lexT s) { data := #[101, 110, 100] } K B < 0 → B < 0 := fun h => (needB_negT h).1
    have hP := fun W (hk : Kept w W) => plcanon_any hE W (hG.kept hk) _ t names K B hM
    have hR := fun W (_ : Kept w W) => parsed_any s W hs _ t names K B hM
    by_cases hF : 0 ≤ needB (lexT s) { data := #[101, 110, 100] } K B
    · obtain ⟨l, hl⟩ : ∃ l, needB (lexT s) { data := #[101, 110, 100] } K B = l := ⟨_, rfl⟩
      refine canons_fault s w 2 l (by omega) (fun W hk => (hP W hk).mono (fun e w' h => ⟨?_, h.1⟩)) (fun W hk => (hR W hk).mono (fun e w' h => ⟨?_, h.1⟩))
      · rw [← hl]; exact h.2.1 hF
      · rw [← hl]; exact h.2.1 hF
    · have hF : needB (lexT s) { data := #[101, 110, 100] } K B < 0 := by omega
      by_cases hd : 120 < sz t
      · exact canons_fault s w 8 0 (by omega) (fun W hk => (hP W hk).mono (fun e w' h => ⟨h.2.2.1 hF hd, h.1⟩)) (fun W hk => (hR W hk).mono (fun e w' h => ⟨h.2.2.1 hF hd, h.1⟩))
      · refine canons_ok s (canT t) w (fun W hk => (hP W hk).mono (fun e w' h => ⟨h.2.2.2 hF (by omega), h.1⟩)) (fun W hk => (hR W hk).mono (fun e w' h => ?_))
        obtain ⟨p, nv, e1, hrep, hrow⟩ := h.2.2.2 hF (by omega)
        have hgood := (tread_good (lexT s) _).1 _ _ _ _ _ _ _ hM (hneg hF)
        have hnk := ((tread_ok (lexT s) hE.good _).1 _ _ _ _ _ _ _ hM hlp (NmOk.nil _)).2
        obtain ⟨b, rfl⟩ := hrep.ptr
        obtain ⟨ao, nc, rfl⟩ : ∃ ao cap, nv = .slice ao names.length cap := by
          rcases hrow.2 with ⟨a1, a2⟩ | ⟨g, cap, cur, a1, _⟩
          · exact ⟨none, 0, by rw [a1, a2]⟩
          · exact ⟨_, cap, a1⟩
        refine ⟨b, ao, names.length, nc, e1, h.1, fun W' hXK => ?_⟩
        have hr2 : TRep W' t (.pointer (some ⟨b, 0, none⟩)) := TRep.keep (fun k cs e f _ hk => (hXK.block k (lt_of_block hk)).trans hk) t hrep
        exact (canon_any W' _ t names.length hgood.2.2.2 (by have := hnk.len; omega) hr2 (by omega)).mono (fun e w'' ⟨a1, a2⟩ => ⟨a1, Kept.kp a2⟩)
end Go.Proofs.YtleenphlgbklmaaGreatDoor
