import Derived.Test.YtleenphlgbklmaaDoorPlain
import Derived.Deep.QuietTactic
import Derived.BigQuiet
import Derived.WalkSmall
namespace Go.Proofs.YtleenphlgbklmaaDoor
open Go.RowKit Go.Extern.Stop Go.Stop Go.Extern

def bnds : List Int := [300, 8, 40, 120, 12]

theorem fl_get (n i : Nat) (h : i < 2 * n) : (fl n)[i]? = some (.bool ((i : Int) / 16 == (i : Int) % 16 / 2)) := by
  induction n with
  | zero => omega
  | succ n ih =>
    rw [fl]
    by_cases hi : i < 2 * n
    · rw [List.getElem?_append_left (by rw [fl_len]; exact hi)]; exact ih hi
    · rw [List.getElem?_append_right (by rw [fl_len]; omega), fl_len]
      have e : sameB (n / 8) (n % 8) = ((i : Int) / 16 == (i : Int) % 16 / 2) := by
        unfold sameB
        by_cases q : n / 8 = n % 8
        · rw [decide_eq_true q]; symm; rw [beq_iff_eq]; omega
        · rw [decide_eq_false q]; symm; rw [beq_eq_false_iff_ne]; omega
      have : i - 2 * n = 0 ∨ i - 2 * n = 1 := by omega
      rcases this with q | q <;> rw [q, e] <;> rfl

set_option maxRecDepth 20000 in
set_option maxHeartbeats 2000000 in
theorem names_any (A : Nat → Addr) (w : World) (hS : Sens A w)
    (g0 : w.cell? ⟨0, 0, none⟩ = some (.iface 68 (.pointer (some (A 0))))) (g1 : w.cell? ⟨1, 0, none⟩ = some (.iface 68 (.pointer (some (A 1)))))
    (g2 : w.cell? ⟨2, 0, none⟩ = some (.iface 68 (.pointer (some (A 2))))) (g3 : w.cell? ⟨3, 0, none⟩ = some (.iface 68 (.pointer (some (A 3)))))
    (g4 : w.cell? ⟨4, 0, none⟩ = some (.iface 68 (.pointer (some (A 4))))) (g5 : w.cell? ⟨5, 0, none⟩ = some (.iface 68 (.pointer (some (A 5)))))
    (g6 : w.cell? ⟨6, 0, none⟩ = some (.iface 68 (.pointer (some (A 6))))) (g7 : w.cell? ⟨7, 0, none⟩ = some (.iface 68 (.pointer (some (A 7)))))
    (g8 : w.cell? ⟨8, 0, none⟩ = some (.iface 54 (.agg #[.pointer (some ⟨9, 28, none⟩)]))) (h9 : 8 < w.heap.size) :
    Calls Tryd.prog 3 #[] w fun e w' => e = .returned (.bool true) ∧ Below w.heap.size w w' := by
  go_enter Tryd.func3, Tryd.ntmps3
  go_wp2_with fail
  refine (plain_names A w hS g0 g1 g2 g3 g4 g5 g6 g7 g8 h9).mono ?_
  rintro e w' ⟨v, rfl, hown, hbel⟩
  rcases hown.2 with ⟨_, hh⟩ | ⟨g, cap, cur, rfl, hgb, hgg, _, _, _, _⟩
  · omega
  have bc : ∀ i, i < 5 → w'.cell? ⟨w.heap.size, i, none⟩ = some (.int .i64 (bnds.getD i 0)) := fun i hi => by
    rw [hbel.cell (by simp)]
    have : i = 0 ∨ i = 1 ∨ i = 2 ∨ i = 3 ∨ i = 4 := by omega
    rcases this with rfl | rfl | rfl | rfl | rfl <;> simp [bnds]
  have hsz : w.heap.size + 2 ≤ w'.heap.size := by have := hbel.size; simp at this; omega
  have hb0 : Below w.heap.size w w' := (((Below.refl _ _).alloc (Nat.le_refl _) _).alloc (by simp) _).trans (hbel.mono (by omega))
  have hgl : g < w'.heap.size := (hown.lt g rfl).2
  have ic : ∀ i, i < 128 → w'.cell? ⟨g, i, none⟩ = some (.bool ((i : Int) / 16 == (i : Int) % 16 / 2)) := fun i hi => by
    rw [hown.cellAt i (by omega)]; exact fl_get 64 i (by omega)
  clear hown hbel g0 g1 g2 g3 g4 g5 g6 g7 g8 hgg hS
  go_wp2
  go_loopw [29] (fun i wr => ∃ k : Nat, k ≤ 5 ∧ i = .int .i64 k ∧ ∃ n, wr = (w'.alloc (.cells #[.int .i64 300, .int .i64 8, .int .i64 40, .int .i64 120, .int .i64 12] 3)).drewN n) (fun i _ => 5 - (intOf i).toNat)
  case atStart => exact ⟨0, by omega, rfl, 0, rfl⟩
  case round =>
    obtain ⟨k, hk, rfl, n, rfl⟩ := hrel
    by_cases hlt : k < 5
    · have c1 : (w'.alloc (.cells #[.int .i64 300, .int .i64 8, .int .i64 40, .int .i64 120, .int .i64 12] 3)).cell? ⟨w.heap.size, k, none⟩ = some (.int .i64 (bnds.getD k 0)) := by
        rw [World.cell?_alloc_lt _ _ ⟨w.heap.size, k, none⟩ (by simp; omega)]; exact bc k hlt
      have c2 : (w'.alloc (.cells #[.int .i64 300, .int .i64 8, .int .i64 40, .int .i64 120, .int .i64 12] 3)).cell? ⟨w'.heap.size, k, none⟩ = some (.int .i64 (bnds.getD k 0)) := by
        have : k = 0 ∨ k = 1 ∨ k = 2 ∨ k = 3 ∨ k = 4 := by omega
        rcases this with rfl | rfl | rfl | rfl | rfl <;> simp [bnds]
      generalize bnds.getD k 0 = z at *
      clear ic bc
      go_wp2
      go_quiet (fail)
      go_wp2
      go_roundw
      case rel => exact ⟨k + 1, by omega, by go_num, _, rfl⟩
      case measure => simp [intOf]; omega
    · have jc : ∀ i, i < 128 → ((w'.alloc (.cells #[.int .i64 300, .int .i64 8, .int .i64 40, .int .i64 120, .int .i64 12] 3)).drewN n).cell? ⟨g, i, none⟩ = some (.bool ((i : Int) / 16 == (i : Int) % 16 / 2)) := fun i hi => by
        rw [World.cell?_drewN, World.cell?_alloc_lt _ _ ⟨g, i, none⟩ (by simp; omega)]; exact ic i hi
      have hb1 : Below w.heap.size w ((w'.alloc (.cells #[.int .i64 300, .int .i64 8, .int .i64 40, .int .i64 120, .int .i64 12] 3)).drewN n) := below_drewN (hb0.alloc (by omega) _) n
      clear bc ic hb0
      go_wp2
      rw [show decide ((k : Int) < 5) = false from by simp; omega]
      generalize (w'.alloc (.cells #[.int .i64 300, .int .i64 8, .int .i64 40, .int .i64 120, .int .i64 12] 3)).drewN n = W at *
      go_loop [44] (fun i => ∃ q : Nat, q ≤ 128 ∧ i = .int .i64 q) (fun i => 128 - (intOf i).toNat)
      case atStart => exact ⟨0, by omega, rfl⟩
      case round =>
        obtain ⟨q, hq, rfl⟩ := hrel
        by_cases hqt : q < 128
        · have c3 := jc q hqt
          clear jc
          go_wp2
          go_round
          case rel => exact ⟨q + 1, by omega, by go_num⟩
          case measure => simp [intOf]; omega
        · clear jc
          go_wp2
          go_ret
          exact ⟨rfl, hb1⟩
end Go.Proofs.YtleenphlgbklmaaDoor
