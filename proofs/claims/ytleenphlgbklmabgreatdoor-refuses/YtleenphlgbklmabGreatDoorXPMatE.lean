import Derived.Test.YtleenphlgbklmabGreatDoorXPMatC
set_option linter.unusedVariables false
set_option linter.unusedSimpArgs false
namespace Go.Proofs.YtleenphlgbklmabGreatDoor
open Go.RowKit

set_option maxRecDepth 20000 in
set_option maxHeartbeats 1000000 in
theorem mt_fn_no (w : World) (mb b : Nat) (x : Value) (hx : ∃ T z, x = .iface T z) (hta : (Instr.typeAssert x 77 157 true).run Tryz.prog w = .ok (.tuple #[.pointer none, .bool false]) w) :
    Calls Tryz.prog 41 #[.map (some mb), .iface 157 (.pointer (some ⟨b, 0, none⟩)), x] w fun e w' => e = .returned (.bool false) ∧ Kept w w' := by
  obtain ⟨T, z, rfl⟩ := hx
  have t0 := Tryz.taAV (.pointer (some ⟨b, 0, none⟩)) w
  have t1 := Tryz.taAL (.pointer (some ⟨b, 0, none⟩)) w
  have t2 := Tryz.taAP (.pointer (some ⟨b, 0, none⟩)) w
  have t3 := Tryz.taAA (.pointer (some ⟨b, 0, none⟩)) w
  go_enter Tryz.func41, Tryz.ntmps41
  go_wp2_with fail
  go_region
  all_goals
    go_wp2
    go_ret
    exact ⟨rfl, (Kept.refl w).drw⟩
set_option maxRecDepth 20000 in
set_option maxHeartbeats 1000000 in
theorem mt_fn_ff (w : World) (mb b c : Nat) (T1 T2 T3 T4 : TypeId) (z1 z2 z3 z4 : Value) (R : World → Prop) (hb1 : w.cell? ⟨b, 1, none⟩ = some (.iface T1 z1)) (hb2 : w.cell? ⟨b, 2, none⟩ = some (.iface T2 z2)) (hc1 : w.cell? ⟨c, 1, none⟩ = some (.iface T3 z3)) (hc2 : w.cell? ⟨c, 2, none⟩ = some (.iface T4 z4))
    (HM : Hid (Calls Tryz.prog 41 #[.map (some mb), .iface T1 z1, .iface T3 z3] w.drew fun e w' => e = .returned (.bool false) ∧ Hid (R w') ∧ w'.cell? ⟨b, 1, none⟩ = some (.iface T1 z1) ∧ w'.cell? ⟨b, 2, none⟩ = some (.iface T2 z2) ∧ w'.cell? ⟨c, 1, none⟩ = some (.iface T3 z3) ∧ w'.cell? ⟨c, 2, none⟩ = some (.iface T4 z4))) :
    Calls Tryz.prog 41 #[.map (some mb), .iface 157 (.pointer (some ⟨b, 0, none⟩)), .iface 157 (.pointer (some ⟨c, 0, none⟩))] w fun e w' => e = .returned (.bool false) ∧ Hid (R w') := by
  have t0 := Tryz.taAV (.pointer (some ⟨b, 0, none⟩)) w
  have t1 := Tryz.taAL (.pointer (some ⟨b, 0, none⟩)) w
  have t2 := Tryz.taAP (.pointer (some ⟨b, 0, none⟩)) w
  have t3 := Tryz.taAA (.pointer (some ⟨b, 0, none⟩)) w
  have tc := Tryz.taAA (.pointer (some ⟨c, 0, none⟩)) w
  go_enter Tryz.func41, Tryz.ntmps41
  go_wp2_with fail
  refine wp_region_held_drew (S := fun w' => w'.cell? ⟨b, 1, none⟩ = some (.iface T1 z1) ∧ w'.cell? ⟨b, 2, none⟩ = some (.iface T2 z2) ∧ w'.cell? ⟨c, 1, none⟩ = some (.iface T3 z3) ∧ w'.cell? ⟨c, 2, none⟩ = some (.iface T4 z4)) (by kernel_rfl) ?_ (fun hHeld => ?_)
  · exact ⟨hb1, hb2, hc1, hc2⟩
  refine wpAnyH_take (i := 0) (oi := { dst := some 91, op := Op.move (Operand.tmp 16), type := 4, pos := "match.go:25", after := #[], guard := none }) (v := ?_) rfl (by kernel_rfl) (by kernel_rfl) (by kernel_rfl) (fun _ _ _ h => h) (Or.inl ⟨by rfl, ?_⟩) (by assumption) ?_
  rotate_left
  · intro w hSw
    obtain ⟨hs1, hs2, hs3, hs4⟩ := hSw
    go_simp
    try with_reducible rfl
  simp only [Act.put, List.setIfInBounds_toArray, List.set_cons_zero, List.set_cons_succ]
  refine wpAnyH_take (i := 1) (oi := { dst := some 92, op := Op.move (Operand.tmp 91), type := 4, pos := "match.go:25", after := #[{ on := 0, ground := Ground.data }], guard := none }) (v := ?_) rfl (by kernel_rfl) (by kernel_rfl) (by kernel_rfl) (fun _ _ _ h => h) (Or.inl ⟨by rfl, ?_⟩) (by assumption) ?_
  rotate_left
  · intro w hSw
    obtain ⟨hs1, hs2, hs3, hs4⟩ := hSw
    go_simp
    try with_reducible rfl
  simp only [Act.put, List.setIfInBounds_toArray, List.set_cons_zero, List.set_cons_succ]
  refine wpAnyH_take (i := 2) (oi := { dst := some 93, op := Op.move (Operand.tmp 0), type := 99, pos := "match.go:25", after := #[{ on := 1, ground := Ground.guard }], guard := some (1, true) }) (v := ?_) rfl (by kernel_rfl) (by kernel_rfl) (by kernel_rfl) (fun _ _ _ h => h) (Or.inl ⟨by rfl, ?_⟩) (by assumption) ?_
  rotate_left
  · intro w hSw
    obtain ⟨hs1, hs2, hs3, hs4⟩ := hSw
    go_simp
    try with_reducible rfl
  simp only [Act.put, List.setIfInBounds_toArray, List.set_cons_zero, List.set_cons_succ]
  refine wpAnyH_take (i := 3) (oi := { dst := some 94, op := Op.move (Operand.tmp 14), type := 157, pos := "match.go:25", after := #[{ on := 1, ground := Ground.guard }], guard := some (1, true) }) (v := ?_) rfl (by kernel_rfl) (by kernel_rfl) (by kernel_rfl) (fun _ _ _ h => h) (Or.inl ⟨by rfl, ?_⟩) (by assumption) ?_
  rotate_left
  · intro w hSw
    obtain ⟨hs1, hs2, hs3, hs4⟩ := hSw
    go_simp
    try with_reducible rfl
  simp only [Act.put, List.setIfInBounds_toArray, List.set_cons_zero, List.set_cons_succ]
  refine wpAnyH_take (i := 4) (oi := { dst := some 95, op := Op.nilCheck (Operand.tmp 94), type := 0, pos := "match.go:25", after := #[{ on := 3, ground := Ground.data }, { on := 1, ground := Ground.guard }], guard := some (1, true) }) (v := ?_) rfl (by kernel_rfl) (by kernel_rfl) (by kernel_rfl) (fun _ _ _ h => h) (Or.inl ⟨by rfl, ?_⟩) (by assumption) ?_
  rotate_left
  · intro w hSw
    obtain ⟨hs1, hs2, hs3, hs4⟩ := hSw
    go_simp
    try with_reducible rfl
  simp only [Act.put, List.setIfInBounds_toArray, List.set_cons_zero, List.set_cons_succ]
  refine wpAnyH_take (i := 5) (oi := { dst := some 96, op := Op.fieldAddr 160 (Operand.tmp 95) 1, type := 0, pos := "match.go:25", after := #[{ on := 4, ground := Ground.data }, { on := 1, ground := Ground.guard }], guard := some (1, true) }) (v := ?_) rfl (by kernel_rfl) (by kernel_rfl) (by kernel_rfl) (fun _ _ _ h => h) (Or.inl ⟨by rfl, ?_⟩) (by assumption) ?_
  rotate_left
  · intro w hSw
    obtain ⟨hs1, hs2, hs3, hs4⟩ := hSw
    go_simp
    try with_reducible rfl
  simp only [Act.put, List.setIfInBounds_toArray, List.set_cons_zero, List.set_cons_succ]
  refine wpAnyH_take (i := 6) (oi := { dst := some 97, op := Op.load 77 (Operand.tmp 96), type := 77, pos := "match.go:25", after := #[{ on := 5, ground := Ground.data }, { on := 1, ground := Ground.guard }], guard := some (1, true) }) (v := ?_) rfl (by kernel_rfl) (by kernel_rfl) (by kernel_rfl) (fun _ _ _ h => h) (Or.inl ⟨by rfl, ?_⟩) (by assumption) ?_
  rotate_left
  · intro w hSw
    obtain ⟨hs1, hs2, hs3, hs4⟩ := hSw
    go_simp
    try with_reducible rfl
  simp only [Act.put, List.setIfInBounds_toArray, List.set_cons_zero, List.set_cons_succ]
  refine wpAnyH_take (i := 7) (oi := { dst := some 98, op := Op.move (Operand.tmp 15), type := 157, pos := "match.go:25", after := #[{ on := 1, ground := Ground.guard }], guard := some (1, true) }) (v := ?_) rfl (by kernel_rfl) (by kernel_rfl) (by kernel_rfl) (fun _ _ _ h => h) (Or.inl ⟨by rfl, ?_⟩) (by assumption) ?_
  rotate_left
  · intro w hSw
    obtain ⟨hs1, hs2, hs3, hs4⟩ := hSw
    go_simp
    try with_reducible rfl
  simp only [Act.put, List.setIfInBounds_toArray, List.set_cons_zero, List.set_cons_succ]
  refine wpAnyH_take (i := 8) (oi := { dst := some 99, op := Op.nilCheck (Operand.tmp 98), type := 0, pos := "match.go:25", after := #[{ on := 7, ground := Ground.data }, { on := 1, ground := Ground.guard }], guard := some (1, true) }) (v := ?_) rfl (by kernel_rfl) (by kernel_rfl) (by kernel_rfl) (fun _ _ _ h => h) (Or.inl ⟨by rfl, ?_⟩) (by assumption) ?_
  rotate_left
  · intro w hSw
    obtain ⟨hs1, hs2, hs3, hs4⟩ := hSw
    go_simp
    try with_reducible rfl
  simp only [Act.put, List.setIfInBounds_toArray, List.set_cons_zero, List.set_cons_succ]
  refine wpAnyH_take (i := 9) (oi := { dst := some 100, op := Op.fieldAddr 160 (Operand.tmp 99) 1, type := 0, pos := "match.go:25", after := #[{ on := 8, ground := Ground.data }, { on := 1, ground := Ground.guard }], guard := some (1, true) }) (v := ?_) rfl (by kernel_rfl) (by kernel_rfl) (by kernel_rfl) (fun _ _ _ h => h) (Or.inl ⟨by rfl, ?_⟩) (by assumption) ?_
  rotate_left
  · intro w hSw
    obtain ⟨hs1, hs2, hs3, hs4⟩ := hSw
    go_simp
    try with_reducible rfl
  simp only [Act.put, List.setIfInBounds_toArray, List.set_cons_zero, List.set_cons_succ]
  refine wpAnyH_take (i := 10) (oi := { dst := some 101, op := Op.load 77 (Operand.tmp 100), type := 77, pos := "match.go:25", after := #[{ on := 9, ground := Ground.data }, { on := 1, ground := Ground.guard }], guard := some (1, true) }) (v := ?_) rfl (by kernel_rfl) (by kernel_rfl) (by kernel_rfl) (fun _ _ _ h => h) (Or.inl ⟨by rfl, ?_⟩) (by assumption) ?_
  rotate_left
  · intro w hSw
    obtain ⟨hs1, hs2, hs3, hs4⟩ := hSw
    go_simp
    try with_reducible rfl
  simp only [Act.put, List.setIfInBounds_toArray, List.set_cons_zero, List.set_cons_succ]
  refine wpAnyH_ready (rs := [11]) (by kernel_rfl) (by simp) ?_
  refine AllReadyH.cons (o := { dst := some 102, op := Op.call { callee := Callee.value (Operand.func 41), args := #[Operand.tmp 93, Operand.tmp 97, Operand.tmp 101], argTypes := #[99, 77, 77] }, type := 4, pos := "match.go:25", after := #[{ on := 2, ground := Ground.data }, { on := 6, ground := Ground.data }, { on := 10, ground := Ground.data }, { on := 1, ground := Ground.chain }, { on := 1, ground := Ground.guard }], guard := some (1, true) }) rfl (fun K hK => ?_) AllReadyH.nil
  go_simp
  refine Calls.mono HM.out ?_
  rintro e w1 ⟨rfl, hR, j1, j2, j3, j4⟩
  refine hK.out _ _ ⟨j1, j2, j3, j4⟩ (fun hHeld2 => ?_)
  clear hK K hHeld
  try simp only [Act.put, List.setIfInBounds_toArray, List.set_cons_zero, List.set_cons_succ]
  refine wpAnyH_take (i := 12) (oi := { dst := some 103, op := Op.pick (Operand.tmp 92) (Operand.tmp 102) (Operand.const (Value.bool false)), type := 4, pos := "match.go:25", after := #[{ on := 1, ground := Ground.data }, { on := 11, ground := Ground.data }], guard := none }) (v := ?_) rfl (by kernel_rfl) (by kernel_rfl) (by kernel_rfl) (fun _ _ _ h => h) (Or.inl ⟨by rfl, ?_⟩) (by assumption) ?_
  rotate_left
  · intro w hSw
    obtain ⟨hs1, hs2, hs3, hs4⟩ := hSw
    go_simp
    try with_reducible rfl
  simp only [Act.put, List.setIfInBounds_toArray, List.set_cons_zero, List.set_cons_succ]
  refine wpAnyH_take (i := 13) (oi := { dst := some 104, op := Op.move (Operand.tmp 103), type := 4, pos := "match.go:25", after := #[{ on := 12, ground := Ground.data }, { on := 11, ground := Ground.chain }], guard := none }) (v := ?_) rfl (by kernel_rfl) (by kernel_rfl) (by kernel_rfl) (fun _ _ _ h => h) (Or.inl ⟨by rfl, ?_⟩) (by assumption) ?_
  rotate_left
  · intro w hSw
    obtain ⟨hs1, hs2, hs3, hs4⟩ := hSw
    go_simp
    try with_reducible rfl
  simp only [Act.put, List.setIfInBounds_toArray, List.set_cons_zero, List.set_cons_succ]
  refine wpAnyH_take (i := 14) (oi := { dst := some 105, op := Op.move (Operand.tmp 0), type := 99, pos := "match.go:25", after := #[{ on := 13, ground := Ground.guard }], guard := some (13, true) }) (v := undef) rfl (by kernel_rfl) (by kernel_rfl) (by kernel_rfl) (fun _ _ _ h => h) (Or.inr ⟨by rfl, rfl⟩) (by assumption) ?_
  simp only [Act.put, List.setIfInBounds_toArray, List.set_cons_zero, List.set_cons_succ]
  refine wpAnyH_take (i := 15) (oi := { dst := some 106, op := Op.move (Operand.tmp 14), type := 157, pos := "match.go:25", after := #[{ on := 13, ground := Ground.guard }], guard := some (13, true) }) (v := undef) rfl (by kernel_rfl) (by kernel_rfl) (by kernel_rfl) (fun _ _ _ h => h) (Or.inr ⟨by rfl, rfl⟩) (by assumption) ?_
  simp only [Act.put, List.setIfInBounds_toArray, List.set_cons_zero, List.set_cons_succ]
  refine wpAnyH_take (i := 16) (oi := { dst := some 107, op := Op.nilCheck (Operand.tmp 106), type := 0, pos := "match.go:25", after := #[{ on := 15, ground := Ground.data }, { on := 13, ground := Ground.guard }], guard := some (13, true) }) (v := undef) rfl (by kernel_rfl) (by kernel_rfl) (by kernel_rfl) (fun _ _ _ h => h) (Or.inr ⟨by rfl, rfl⟩) (by assumption) ?_
  simp only [Act.put, List.setIfInBounds_toArray, List.set_cons_zero, List.set_cons_succ]
  refine wpAnyH_take (i := 17) (oi := { dst := some 108, op := Op.fieldAddr 160 (Operand.tmp 107) 2, type := 0, pos := "match.go:25", after := #[{ on := 16, ground := Ground.data }, { on := 13, ground := Ground.guard }], guard := some (13, true) }) (v := undef) rfl (by kernel_rfl) (by kernel_rfl) (by kernel_rfl) (fun _ _ _ h => h) (Or.inr ⟨by rfl, rfl⟩) (by assumption) ?_
  simp only [Act.put, List.setIfInBounds_toArray, List.set_cons_zero, List.set_cons_succ]
  refine wpAnyH_take (i := 18) (oi := { dst := some 109, op := Op.load 77 (Operand.tmp 108), type := 77, pos := "match.go:25", after := #[{ on := 17, ground := Ground.data }, { on := 13, ground := Ground.guard }], guard := some (13, true) }) (v := undef) rfl (by kernel_rfl) (by kernel_rfl) (by kernel_rfl) (fun _ _ _ h => h) (Or.inr ⟨by rfl, rfl⟩) (by assumption) ?_
  simp only [Act.put, List.setIfInBounds_toArray, List.set_cons_zero, List.set_cons_succ]
  refine wpAnyH_take (i := 19) (oi := { dst := some 110, op := Op.move (Operand.tmp 15), type := 157, pos := "match.go:25", after := #[{ on := 13, ground := Ground.guard }], guard := some (13, true) }) (v := undef) rfl (by kernel_rfl) (by kernel_rfl) (by kernel_rfl) (fun _ _ _ h => h) (Or.inr ⟨by rfl, rfl⟩) (by assumption) ?_
  simp only [Act.put, List.setIfInBounds_toArray, List.set_cons_zero, List.set_cons_succ]
  refine wpAnyH_take (i := 20) (oi := { dst := some 111, op := Op.nilCheck (Operand.tmp 110), type := 0, pos := "match.go:25", after := #[{ on := 19, ground := Ground.data }, { on := 13, ground := Ground.guard }], guard := some (13, true) }) (v := undef) rfl (by kernel_rfl) (by kernel_rfl) (by kernel_rfl) (fun _ _ _ h => h) (Or.inr ⟨by rfl, rfl⟩) (by assumption) ?_
  simp only [Act.put, List.setIfInBounds_toArray, List.set_cons_zero, List.set_cons_succ]
  refine wpAnyH_take (i := 21) (oi := { dst := some 112, op := Op.fieldAddr 160 (Operand.tmp 111) 2, type := 0, pos := "match.go:25", after := #[{ on := 20, ground := Ground.data }, { on := 13, ground := Ground.guard }], guard := some (13, true) }) (v := undef) rfl (by kernel_rfl) (by kernel_rfl) (by kernel_rfl) (fun _ _ _ h => h) (Or.inr ⟨by rfl, rfl⟩) (by assumption) ?_
  simp only [Act.put, List.setIfInBounds_toArray, List.set_cons_zero, List.set_cons_succ]
  refine wpAnyH_take (i := 22) (oi := { dst := some 113, op := Op.load 77 (Operand.tmp 112), type := 77, pos := "match.go:25", after := #[{ on := 21, ground := Ground.data }, { on := 13, ground := Ground.guard }], guard := some (13, true) }) (v := undef) rfl (by kernel_rfl) (by kernel_rfl) (by kernel_rfl) (fun _ _ _ h => h) (Or.inr ⟨by rfl, rfl⟩) (by assumption) ?_
  simp only [Act.put, List.setIfInBounds_toArray, List.set_cons_zero, List.set_cons_succ]
  refine wpAnyH_take (i := 23) (oi := { dst := some 114, op := Op.call { callee := Callee.value (Operand.func 41), args := #[Operand.tmp 105, Operand.tmp 109, Operand.tmp 113], argTypes := #[99, 77, 77] }, type := 4, pos := "match.go:25", after := #[{ on := 14, ground := Ground.data }, { on := 18, ground := Ground.data }, { on := 22, ground := Ground.data }, { on := 13, ground := Ground.chain }, { on := 13, ground := Ground.guard }], guard := some (13, true) }) (v := undef) rfl (by kernel_rfl) (by kernel_rfl) (by kernel_rfl) (fun _ _ _ h => h) (Or.inr ⟨by rfl, rfl⟩) (by assumption) ?_
  simp only [Act.put, List.setIfInBounds_toArray, List.set_cons_zero, List.set_cons_succ]
  refine wpAnyH_take (i := 24) (oi := { dst := some 115, op := Op.pick (Operand.tmp 104) (Operand.tmp 114) (Operand.const (Value.bool false)), type := 4, pos := "match.go:25", after := #[{ on := 13, ground := Ground.data }, { on := 23, ground := Ground.data }], guard := none }) (v := ?_) rfl (by kernel_rfl) (by kernel_rfl) (by kernel_rfl) (fun _ _ _ h => h) (Or.inl ⟨by rfl, ?_⟩) (by assumption) ?_
  rotate_left
  · intro w hSw
    obtain ⟨hs1, hs2, hs3, hs4⟩ := hSw
    go_simp
    try with_reducible rfl
  simp only [Act.put, List.setIfInBounds_toArray, List.set_cons_zero, List.set_cons_succ]
  refine wpAnyH_take (i := 25) (oi := { dst := some 6, op := Op.assign (Operand.tmp 115), type := 4, pos := "match.go:25", after := #[{ on := 24, ground := Ground.data }, { on := 23, ground := Ground.chain }, { on := 0, ground := Ground.phase }, { on := 1, ground := Ground.phase }, { on := 2, ground := Ground.phase }, { on := 3, ground := Ground.phase }, { on := 4, ground := Ground.phase }, { on := 5, ground := Ground.phase }, { on := 6, ground := Ground.phase }, { on := 7, ground := Ground.phase }, { on := 8, ground := Ground.phase }, { on := 9, ground := Ground.phase }, { on := 10, ground := Ground.phase }, { on := 11, ground := Ground.phase }, { on := 12, ground := Ground.phase }, { on := 13, ground := Ground.phase }, { on := 14, ground := Ground.phase }, { on := 15, ground := Ground.phase }, { on := 16, ground := Ground.phase }, { on := 17, ground := Ground.phase }, { on := 18, ground := Ground.phase }, { on := 19, ground := Ground.phase }, { on := 20, ground := Ground.phase }, { on := 21, ground := Ground.phase }, { on := 22, ground := Ground.phase }, { on := 23, ground := Ground.phase }, { on := 24, ground := Ground.phase }], guard := none }) (v := ?_) rfl (by kernel_rfl) (by kernel_rfl) (by kernel_rfl) (fun _ _ _ h => h) (Or.inl ⟨by rfl, ?_⟩) (by assumption) ?_
  rotate_left
  · intro w hSw
    obtain ⟨hs1, hs2, hs3, hs4⟩ := hSw
    go_simp
    try with_reducible rfl
  simp only [Act.put, List.setIfInBounds_toArray, List.set_cons_zero, List.set_cons_succ]
  refine wpAnyH_done (by kernel_rfl) ?_ _
  go_wp2
  go_ret
  exact ⟨rfl, hR⟩
set_option maxRecDepth 20000 in
set_option maxHeartbeats 1000000 in
theorem mt_fn_tt (w : World) (mb b c : Nat) (T1 T2 T3 T4 : TypeId) (z1 z2 z3 z4 : Value) (R : World → Prop) (Q : Bool → World → Prop) (hb1 : w.cell? ⟨b, 1, none⟩ = some (.iface T1 z1)) (hb2 : w.cell? ⟨b, 2, none⟩ = some (.iface T2 z2)) (hc1 : w.cell? ⟨c, 1, none⟩ = some (.iface T3 z3)) (hc2 : w.cell? ⟨c, 2, none⟩ = some (.iface T4 z4))
    (HM : Hid (Calls Tryz.prog 41 #[.map (some mb), .iface T1 z1, .iface T3 z3] w.drew fun e w' => e = .returned (.bool true) ∧ Hid (R w') ∧ w'.cell? ⟨b, 1, none⟩ = some (.iface T1 z1) ∧ w'.cell? ⟨b, 2, none⟩ = some (.iface T2 z2) ∧ w'.cell? ⟨c, 1, none⟩ = some (.iface T3 z3) ∧ w'.cell? ⟨c, 2, none⟩ = some (.iface T4 z4)))
    (HM2 : Hid (∀ w1, Hid (R w1) → Calls Tryz.prog 41 #[.map (some mb), .iface T2 z2, .iface T4 z4] w1 fun e w' => ∃ r, e = .returned (.bool r) ∧ Hid (Q r w') ∧ w'.cell? ⟨b, 1, none⟩ = some (.iface T1 z1) ∧ w'.cell? ⟨b, 2, none⟩ = some (.iface T2 z2) ∧ w'.cell? ⟨c, 1, none⟩ = some (.iface T3 z3) ∧ w'.cell? ⟨c, 2, none⟩ = some (.iface T4 z4))) :
    Calls Tryz.prog 41 #[.map (some mb), .iface 157 (.pointer (some ⟨b, 0, none⟩)), .iface 157 (.pointer (some ⟨c, 0, none⟩))] w fun e w' => ∃ r, e = .returned (.bool r) ∧ Hid (Q r w') := by
  have t0 := Tryz.taAV (.pointer (some ⟨b, 0, none⟩)) w
  have t1 := Tryz.taAL (.pointer (some ⟨b, 0, none⟩)) w
  have t2 := Tryz.taAP (.pointer (some ⟨b, 0, none⟩)) w
  have t3 := Tryz.taAA (.pointer (some ⟨b, 0, none⟩)) w
  have tc := Tryz.taAA (.pointer (some ⟨c, 0, none⟩)) w
  go_enter Tryz.func41, Tryz.ntmps41
  go_wp2_with fail
  go_region_held3 (fun w' => w'.cell? ⟨b, 1, none⟩ = some (.iface T1 z1) ∧ w'.cell? ⟨b, 2, none⟩ = some (.iface T2 z2) ∧ w'.cell? ⟨c, 1, none⟩ = some (.iface T3 z3) ∧ w'.cell? ⟨c, 2, none⟩ = some (.iface T4 z4)) (go_keep) (first | (go_at_call 41; with_reducible refine Calls.mono HM.out ?_; rintro e w1 ⟨rfl, hR, j1, j2, j3, j4⟩) | (go_at_call 41; with_reducible refine Calls.mono (HM2.out w1 hR) ?_; rintro e w2 ⟨r, rfl, hQ, k1, k2, k3, k4⟩))
  all_goals
    go_wp2
    go_ret
    exact ⟨r, rfl, hQ⟩
end Go.Proofs.YtleenphlgbklmabGreatDoor
