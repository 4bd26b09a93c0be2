import Derived.Test.YtleenphlgbklmabGreatDoorWKNb
set_option linter.unusedVariables false
set_option linter.unusedSimpArgs false
namespace Go.Proofs.YtleenphlgbklmabGreatDoor
open Go.RowKit

/-- what the law asks of a lot, and the contracts of what it calls. -/
structure LotC (A : Nat → Addr) (src text typ : ByteArray) (what : Nat) (o : IfO) : Prop where
  show_ : ∀ w, Glb A w → Calls Tryz.prog 15 #[.string src] w fun e w' => e = .returned (.tuple #[.string text, faultVal 0 0 { data := #[] }]) ∧ Kept w w'
  inf : ∀ w, Glb A w → Calls Tryz.prog 16 #[.string src] w fun e w' => e = .returned (.tuple #[.string o.t, faultVal o.what o.loc o.s]) ∧ Kept w w'
  ask : (∃ t, o = .txt t ∧ what = 0 ∧ typ ≠ { data := #[] } ∧ dsp t t.size = dsp typ typ.size ∧ t.size ≤ 1000000 ∧ typ.size ≤ 1000000) ∨ (∃ j, o = .sen j ∧ senNo j = what ∧ what ≠ 0) ∨ (∃ loc n, o = .unb loc n ∧ what = 0 ∧ typ = { data := #[] } ∧ loc < text.size ∧ n = text.extract loc (loc + 1) ∧ (loc = 0 ↔ text.size = 1) ∧ text.size ≤ 1000000)
theorem lot_at {A : Nat → Addr} {l : Lot} (h : lotOk l = true) : ∃ o, LotC A l.1 l.2.1 l.2.2.1 l.2.2.2 o := by
  unfold lotOk at h
  simp only [Bool.and_eq_true] at h
  obtain ⟨h1, h2⟩ := h
  cases hx : exO l.1 with
  | none => rw [hx] at h1; cases h1
  | some x =>
    rw [hx] at h1
    simp only [Bool.and_eq_true, decide_eq_true_eq] at h1
    have ht := bq_iff.1 h1.1
    cases hi : inferF true 6 l.1 envS with
    | none => rw [hi] at h2; cases h2
    | some o =>
      rw [hi] at h2
      have hs : ∀ w, Glb A w → Calls Tryz.prog 15 #[.string l.1] w fun e w' => e = .returned (.tuple #[.string l.2.1, faultVal 0 0 { data := #[] }]) ∧ Kept w w' := fun w hG => by
        rw [← ht]
        exact show_at hx h1.2 w hG
      cases o with
      | txt t =>
        simp only [Bool.and_eq_true, decide_eq_true_eq, Bool.not_eq_true', beq_iff_eq] at h2
        obtain ⟨⟨⟨⟨a1, a2⟩, a3⟩, a4⟩, a5⟩ := h2
        exact ⟨_, hs, fun w hG => kinf_at hi trivial w hG, .inl ⟨t, rfl, a1, fun z => (by rw [bq_iff.2 z] at a2; cases a2), bq_iff.1 a3, a4, a5⟩⟩
      | sen j =>
        simp only [Bool.and_eq_true, decide_eq_true_eq, Bool.not_eq_true', beq_eq_false_iff_ne] at h2
        obtain ⟨⟨a1, a2⟩, a3⟩ := h2
        exact ⟨_, hs, fun w hG => kinf_at hi a1 w hG, .inr (.inl ⟨j, rfl, a2, a3⟩)⟩
      | unb loc n =>
        simp only [Bool.and_eq_true, decide_eq_true_eq, beq_iff_eq] at h2
        obtain ⟨⟨⟨⟨⟨a1, a2⟩, a3⟩, a4⟩, a5⟩, a6⟩ := h2
        refine ⟨_, hs, fun w hG => kinf_at hi trivial w hG, .inr (.inr ⟨loc, n, rfl, a1, bq_iff.1 a2, a3, bq_iff.1 a4, ?_, a6⟩)⟩
        constructor
        · intro z
          rw [z] at a5
          exact beq_iff_eq.1 a5.symm
        · intro z
          rw [z] at a5
          exact beq_iff_eq.1 a5
theorem tol_ne {t : ByteArray} (h : t ≠ { data := #[] }) : t.toList.isEmpty = false := by
  rw [Go.ByteArray.toList_eq]
  cases hh : t.data.toList with
  | nil => exact absurd (ByteArray.ext (by simpa using hh)) h
  | cons a l => rfl
set_option maxRecDepth 20000 in
set_option maxHeartbeats 4000000 in
theorem knownlaw_any {A : Nat → Addr} (c : Int) (w : World) (hG : Glb A w) (h1 : -9223372036854775808 ≤ c) (h2 : c ≤ 9223372036854775807) : Calls Tryz.prog 6 #[.int .i64 c] w fun e w' => e = .returned (.bool true) ∧ Kept w w' := by
  obtain ⟨j, hk, hj⟩ : ∃ j : Nat, pickI c 36 = j ∧ j < 36 := by
    have := pickI_lt c 36 (by omega)
    exact ⟨(pickI c 36).toNat, by omega, by omega⟩
  have HP : Hid (∀ W, Calls Tryz.prog 11 #[.int .i64 c, .int .i64 36] W fun e w' => e = .returned (.int .i64 j) ∧ w' = W) := fun W => by
    have := pick_sx c 36 W h1 h2 (by omega) (by omega)
    rwa [hk] at this
  have hjl : j < lotL.length := hj
  obtain ⟨o, hL⟩ := lot_at (A := A) (List.all_eq_true.1 lot_all lotL[j] (List.getElem_mem hjl))
  have hk1 : Kept w (w.alloc (.cells lotC 45)) := Kept.alloc _ _
  have hcell := fun i hi => lot_cell (heap_alloc_new w (.cells lotC 45)) hjl i hi
  have HLS : Hid (Calls Tryz.prog 14 #[] w fun e w' => e = .returned (.slice (some ⟨w.heap.size, 0, none⟩) 36 36) ∧ w' = w.alloc (.cells lotC 45)) := lots_sx w
  generalize w.alloc (.cells lotC 45) = W at *
  generalize lotL[j] = l at *
  obtain ⟨src, text, typ, what⟩ := l
  have c0 : W.cell? ⟨w.heap.size, j * 4, none⟩ = some (.string src) := by rw [Nat.mul_comm j 4]; exact hcell 0 (by omega)
  have c1 : W.cell? ⟨w.heap.size, j * 4 + 1, none⟩ = some (.string text) := by rw [Nat.mul_comm j 4]; exact hcell 1 (by omega)
  have c2 : W.cell? ⟨w.heap.size, j * 4 + 2, none⟩ = some (.string typ) := by rw [Nat.mul_comm j 4]; exact hcell 2 (by omega)
  have c3 : W.cell? ⟨w.heap.size, j * 4 + 3, none⟩ = some (.int .i64 what) := by rw [Nat.mul_comm j 4]; exact hcell 3 (by omega)
  have HL : Hid _ := hL
  have HG : Hid _ := hG.kept hk1
  clear hcell hk h1 h2 hG hL
  go_enter Tryz.func6, Tryz.ntmps6
  go_wp2_with fail
  refine Calls.mono HLS.out ?_
  rintro e w1 ⟨rfl, hww⟩
  rw [hww]
  clear hww w1 HLS
  go_wp2_with fail
  refine Calls.mono (HP.out _) ?_
  rintro e w1 ⟨rfl, hww⟩
  rw [hww]
  clear hww w1 HP
  go_wp2_with fail
  have hk2 : Kept W (W.alloc (.cells #[.string src, .string text, .string typ, .int .i64 what] 45)) := Kept.alloc _ _
  have hb2 := heap_alloc_new W (.cells #[.string src, .string text, .string typ, .int .i64 what] 45)
  generalize W.alloc (.cells #[.string src, .string text, .string typ, .int .i64 what] 45) = V at *
  have hk12 := hk1.trans hk2
  have HG2 : Hid _ := HG.out.kept hk2
  clear c0 c1 c2 c3 HG hk1 hk2
  generalize W.heap.size = xb at *
  refine Calls.mono (HL.out.show_ V HG2.out) ?_
  rintro e w2 ⟨rfl, hk2⟩
  have HG3 : Hid _ := HG2.out.kept hk2
  have HB3 : Hid _ := hk2.blk hb2
  have HK3 : Hid _ := hk12.trans hk2
  have c0 : w2.cell? ⟨xb, 0, none⟩ = some (.string src) := cell_of HB3.out rfl
  clear hb2 hk12 HG2 hk2
  unfold faultVal
  have hk4 : Kept w2 (w2.alloc (.cells #[.int .i64 0, .int .i64 0, .string { data := #[] }, .int .i64 0, .int .i64 0] 23)) := Kept.alloc _ _
  have hb4 := heap_alloc_new w2 (.cells #[.int .i64 0, .int .i64 0, .string { data := #[] }, .int .i64 0, .int .i64 0] 23)
  have c0' := hk4.cell c0
  go_wp2_with fail
  generalize w2.alloc (.cells #[.int .i64 0, .int .i64 0, .string { data := #[] }, .int .i64 0, .int .i64 0] 23) = w3 at *
  have HG4 : Hid _ := HG3.out.kept hk4
  have HB4 : Hid _ := hk4.blk HB3.out
  have HK4 : Hid _ := HK3.out.trans hk4
  generalize w2.heap.size = fb at *
  have HF4 : Hid _ := hb4
  have HI : Hid _ := HL.out.inf w3 HG4.out
  have HA : Hid _ := HL.out.ask
  clear c0 c0' hk4 hb4 HG3 HB3 HK3 HL
  refine Calls.mono HI.out ?_
  rintro e w4 ⟨rfl, hk5⟩
  have hb5 := hk5.blk HB4.out
  have hf5 := hk5.blk HF4.out
  have hK5 := HK4.out.trans hk5
  clear HI hk5 HB4 HF4 HK4 HG4
  unfold faultVal
  have hk6 : Kept w4 (w4.alloc (.cells #[.int .i64 o.what, .int .i64 o.loc, .string o.s, .int .i64 0, .int .i64 0] 23)) := Kept.alloc _ _
  have hb6 := heap_alloc_new w4 (.cells #[.int .i64 o.what, .int .i64 o.loc, .string o.s, .int .i64 0, .int .i64 0] 23)
  have hx6 := hk6.blk hb5
  have hf6 := hk6.blk hf5
  have hK6 := hK5.trans hk6
  have x1 : (w4.alloc (.cells #[.int .i64 o.what, .int .i64 o.loc, .string o.s, .int .i64 0, .int .i64 0] 23)).cell? ⟨xb, 1, none⟩ = some (.string text) := cell_of hx6 rfl
  have x2 : (w4.alloc (.cells #[.int .i64 o.what, .int .i64 o.loc, .string o.s, .int .i64 0, .int .i64 0] 23)).cell? ⟨xb, 2, none⟩ = some (.string typ) := cell_of hx6 rfl
  have x3 : (w4.alloc (.cells #[.int .i64 o.what, .int .i64 o.loc, .string o.s, .int .i64 0, .int .i64 0] 23)).cell? ⟨xb, 3, none⟩ = some (.int .i64 what) := cell_of hx6 rfl
  have f0 : (w4.alloc (.cells #[.int .i64 o.what, .int .i64 o.loc, .string o.s, .int .i64 0, .int .i64 0] 23)).cell? ⟨fb, 0, none⟩ = some (.int .i64 0) := cell_of hf6 rfl
  have y0 : (w4.alloc (.cells #[.int .i64 o.what, .int .i64 o.loc, .string o.s, .int .i64 0, .int .i64 0] 23)).cell? ⟨w4.heap.size, 0, none⟩ = some (.int .i64 o.what) := cell_of hb6 rfl
  have y1 : (w4.alloc (.cells #[.int .i64 o.what, .int .i64 o.loc, .string o.s, .int .i64 0, .int .i64 0] 23)).cell? ⟨w4.heap.size, 1, none⟩ = some (.int .i64 o.loc) := cell_of hb6 rfl
  have y2 : (w4.alloc (.cells #[.int .i64 o.what, .int .i64 o.loc, .string o.s, .int .i64 0, .int .i64 0] 23)).cell? ⟨w4.heap.size, 2, none⟩ = some (.string o.s) := cell_of hb6 rfl
  clear hk6 hb6 hx6 hf6 hK5 hb5 hf5
  have HK6 : Hid _ := hK6
  clear hK6
  rcases HA.out with ⟨t, rfl, rfl, hty, hds, hz1, hz2⟩ | ⟨q, rfl, hq, hw⟩ | ⟨loc, n, rfl, rfl, rfl, hl1, rfl, hl2, hl3⟩
  · clear HA
    simp only [IfO.t, IfO.what, IfO.loc, IfO.s] at *
    have hty' := tol_ne hty
    have HD1 : Hid _ := desp_sx t hz1
    have HD2 : Hid _ := desp_sx typ hz2
    have HDS : Hid _ := hds
    clear hty hz1 hz2 hds
    go_wp2_with fail
    generalize w4.alloc (.cells #[.int .i64 0, .int .i64 0, .string { data := #[] }, .int .i64 0, .int .i64 0] 23) = Z at *
    have y0' : Z.drew.cell? ⟨w4.heap.size, 0, none⟩ = some (.int .i64 0) := y0
    have x2' : Z.drew.cell? ⟨xb, 2, none⟩ = some (.string typ) := x2
    have HKZ : Hid (Kept w Z.drew) := HK6.out.trans (Kept.drew _)
    clear HK6
    go_region_with (first | (go_at_call_of 17 (Value.string t); refine Calls.mono (HD1.out _) ?_; rintro e w5 ⟨rfl, hww⟩; rw [hww]; clear hww w5) | (go_at_call_of 17 (Value.string typ); refine Calls.mono (HD2.out _) ?_; rintro e w5 ⟨rfl, hww⟩; rw [hww, ← HDS.out]; clear hww w5))
    all_goals
      go_wp2
      go_ret
      exact ⟨rfl, HKZ.out⟩
  · clear HA
    simp only [IfO.t, IfO.what, IfO.loc, IfO.s] at *
    have hw' : ¬ ((what : Int) = 0) := by omega
    generalize senNo q = sn at *
    subst hq
    clear hw
    go_wp2_with fail
    go_ret
    exact ⟨rfl, HK6.out⟩
  · clear HA
    simp only [IfO.t, IfO.what, IfO.loc, IfO.s] at *
    go_wp2_with fail
    generalize w4.alloc (.cells #[.int .i64 4, .int .i64 loc, .string (text.extract loc (loc + 1)), .int .i64 0, .int .i64 0] 23) = Z at *
    go_quiet (fail)
    have he : (((loc : Int) == 0) == ((text.size : Int) == 1)) = true := by
      by_cases h0 : loc = 0
      · have h1 := hl2.1 h0
        simp [h0, h1]
      · have h1 : ¬ text.size = 1 := fun z => h0 (hl2.2 z)
        have h0' : ¬ (loc : Int) = 0 := by omega
        have h1' : ¬ (text.size : Int) = 1 := by omega
        rw [beq_eq_false_iff_ne.2 h0', beq_eq_false_iff_ne.2 h1']
        rfl
    rw [he]
    go_wp2
    go_ret
    exact ⟨rfl, HK6.out.trans ⟨rfl, rfl, Nat.le_refl _, fun _ _ => rfl⟩⟩
end Go.Proofs.YtleenphlgbklmabGreatDoor
