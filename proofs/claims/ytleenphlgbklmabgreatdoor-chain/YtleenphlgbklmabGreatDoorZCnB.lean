import Derived.Test.YtleenphlgbklmabGreatDoorZCnA
set_option linter.unusedVariables false
set_option linter.unusedSimpArgs false
namespace Go.Proofs.YtleenphlgbklmabGreatDoor
open Go.RowKit

set_option maxRecDepth 20000 in
theorem figs_small (w : World) (n : Nat) (h : n < 10) : Calls Tryz.prog 12 #[.int .i64 n] w fun e w' => e = .returned (.string (bytesN [48 + n])) ∧ Kept w w' := by
  have hc := conv1 w (48 + (n : Int)) (by omega) (by omega)
  have e : (48 + (n : Int)).toNat = 48 + n := by omega
  rw [e] at hc
  have HE : Hid _ := e
  clear e
  generalize bytesN [48 + n] = r at *
  go_enter Tryz.func12, Tryz.ntmps12
  go_wp2
  go_ret
  exact ⟨rfl, Kept.alloc _ _⟩
theorem cq_rd {W : World} {g n m : Nat} {ps : List Rpt} (h : Rds W g (cqO n m) ps) (hl : ps.length = m) (q : Nat) (hq : q < m) : ∃ p0 p1 p2 p3, W.cell? ⟨g, q * 3, none⟩ = some (.slice (some ⟨p0, 0, none⟩) (n + 1) p1) ∧ W.cell? ⟨g, q * 3 + 1, none⟩ = some (.int .i64 ((q : Int) + 1)) ∧ W.cell? ⟨g, q * 3 + 2, none⟩ = some (.slice (some ⟨p2, 0, none⟩) (n + 1) p3) ∧ (∀ k, k < n + 1 → W.cell? ⟨p0, k, none⟩ = some (.string (cqN k))) ∧ ∀ k, k < n + 1 → W.cell? ⟨p2, k, none⟩ = some (.string (cqU q k)) := by
  have hjo : q < (cqO n m).length := by rw [cqO_len]; exact hq
  have hjp : q < ps.length := by rw [hl]; exact hq
  have a0 := h.a0 q hjo hjp
  have a1 := h.a1 q hjo hjp
  have a2 := h.a2 q hjo hjp
  have b0 := h.n0 q hjo hjp
  have b2 := h.n2 q hjo hjp
  simp only [cqO_get, List.length_map, List.length_range] at a0 a1 a2
  rw [Nat.mul_comm q 3]
  refine ⟨_, _, _, _, a0, a1, a2, fun k hk => ?_, fun k hk => ?_⟩
  · have := b0.cell k (by rw [cqO_get]; simpa using hk)
    simpa only [cqO_get, List.getElem_map, List.getElem_range] using this
  · have := b2.cell k (by rw [cqO_get]; simpa using hk)
    simpa only [cqO_get, List.getElem_map, List.getElem_range] using this
end Go.Proofs.YtleenphlgbklmabGreatDoor
