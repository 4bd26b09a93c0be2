import Derived.Test.YtleenphlgbklmabGreatDoorUPTy
import Derived.Test.YtleenphlgbklmabGreatDoorUPNum
set_option linter.unusedVariables false
set_option linter.unusedSimpArgs false
namespace Go.Proofs.YtleenphlgbklmabGreatDoor
open Go.RowKit

theorem Tryz.fList (b : Nat) (w : World) : (Go.method 473 149 (.pointer (some ⟨b, 0, none⟩)) "schemes/infer.finding").run Tryz.prog w = .ok (223, .pointer (some ⟨b, 0, none⟩)) w := by kernel_rfl
theorem Tryz.fPair (b : Nat) (w : World) : (Go.method 473 153 (.pointer (some ⟨b, 0, none⟩)) "schemes/infer.finding").run Tryz.prog w = .ok (223, .pointer (some ⟨b, 0, none⟩)) w := by kernel_rfl
theorem Tryz.fArr (b : Nat) (w : World) : (Go.method 473 157 (.pointer (some ⟨b, 0, none⟩)) "schemes/infer.finding").run Tryz.prog w = .ok (223, .pointer (some ⟨b, 0, none⟩)) w := by kernel_rfl
theorem Tryz.fVar (b : Nat) (w : World) : (Go.method 473 124 (.pointer (some ⟨b, 0, none⟩)) "schemes/infer.finding").run Tryz.prog w = .ok (223, .pointer (some ⟨b, 0, none⟩)) w := by kernel_rfl
theorem Tryz.fBase (v : Value) (w : World) : (Go.method 473 271 v "schemes/infer.finding").run Tryz.prog w = .ok (244, v) w := by kernel_rfl
set_option maxRecDepth 20000 in
theorem known_ptr (T : TypeId) (b : Nat) (w : World) (hm : (Go.method 473 T (.pointer (some ⟨b, 0, none⟩)) "schemes/infer.finding").run Tryz.prog w = .ok (223, .pointer (some ⟨b, 0, none⟩)) w) (hc : w.cell? ⟨b, 0, none⟩ = some .nilIface) :
    Calls Tryz.prog 124 #[.iface T (.pointer (some ⟨b, 0, none⟩))] w fun e w' => e = .returned (.iface T (.pointer (some ⟨b, 0, none⟩))) ∧ w' = w := by
  go_enter Tryz.func124, Tryz.ntmps124
  go_wp2
  go_ret
  exact ⟨rfl, rfl⟩
set_option maxRecDepth 20000 in
theorem known_base (v : Value) (w : World) : Calls Tryz.prog 124 #[.iface 271 (.agg #[v])] w fun e w' => e = .returned (.iface 271 (.agg #[v])) ∧ Kp (fun _ => False) w w' := by
  have hm := Tryz.fBase (.agg #[v]) w
  go_enter Tryz.func124, Tryz.ntmps124
  go_wp2
  go_ret
  exact ⟨rfl, (Kp.refl _ _).alloc _⟩
theorem VBlk.c0 {w : World} {b : Nat} (h : VBlk w b) : w.cell? ⟨b, 0, none⟩ = some .nilIface := by
  obtain ⟨s, hs⟩ := h
  simp [World.cell?, hs]
/-- of a type that was read nothing has been found out. -/
theorem known_any {w : World} {vb : List Nat} {t : Ty} {v : Value} (h : PTy w vb t v) (hv : ∀ c, c ∈ vb → VBlk w c) : Calls Tryz.prog 124 #[v] w fun e w' => e = .returned v ∧ Kp (fun _ => False) w w' := by
  cases h with
  | var n b hb => exact (known_ptr _ b w (Tryz.fVar b w) (hv b (List.mem_of_getElem? hb)).c0).mono (fun e w' ⟨h1, h2⟩ => ⟨h1, by rw [h2]; exact Kp.refl _ _⟩)
  | base kd _ => exact known_base _ w
  | list a b p hb _ => exact (known_ptr _ b w (Tryz.fList b w) (by simp [World.cell?, hb])).mono (fun e w' ⟨h1, h2⟩ => ⟨h1, by rw [h2]; exact Kp.refl _ _⟩)
  | pair a c b p q hb _ _ => exact (known_ptr _ b w (Tryz.fPair b w) (by simp [World.cell?, hb])).mono (fun e w' ⟨h1, h2⟩ => ⟨h1, by rw [h2]; exact Kp.refl _ _⟩)
  | fn a c b p q hb _ _ => exact (known_ptr _ b w (Tryz.fArr b w) (by simp [World.cell?, hb])).mono (fun e w' ⟨h1, h2⟩ => ⟨h1, by rw [h2]; exact Kp.refl _ _⟩)
end Go.Proofs.YtleenphlgbklmabGreatDoor
