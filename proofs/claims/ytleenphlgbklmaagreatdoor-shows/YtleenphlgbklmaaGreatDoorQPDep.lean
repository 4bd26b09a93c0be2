import Derived.Test.YtleenphlgbklmaaGreatDoorQPX
set_option linter.unusedVariables false
set_option linter.unusedSimpArgs false
namespace Go.Proofs.YtleenphlgbklmaaGreatDoor
open Go.RowKit

theorem pdep_any (d : Int) (w : World) : Calls Tryz.prog 284 #[.agg #[.int .i64 d]] w fun e w' => e = .returned (.int .i64 d) ∧ Kp (fun _ => False) w w' := by
  go_enter Tryz.func284, Tryz.ntmps284
  go_wp2
  go_ret
  exact ⟨rfl, (Kp.refl _ _).alloc _⟩
theorem mdep_Na (b : Nat) (w : World) (cs : Array Value) (d : Int) (h : w.heap[b]? = some (.cells cs 262 (0, 0))) (h0 : cs[0]? = some (.int .i64 d)) : (Go.method 538 257 (.pointer (some ⟨b, 0, none⟩)) "schemes/infer.depth").run Tryz.prog w = .ok (284, .agg #[.int .i64 d]) w := by
  have e : (Go.method 538 257 (.pointer (some ⟨b, 0, none⟩)) "schemes/infer.depth").run Tryz.prog w = ((do let v ← loadVar 260 ⟨b, 0, none⟩; pure (284, v)) : Sem (FuncId × Value)).run Tryz.prog w := by kernel_rfl
  rw [e]
  simp [go_sem, World.cell?, h, h0]
theorem mdep_Nu (b : Nat) (w : World) (cs : Array Value) (d : Int) (h : w.heap[b]? = some (.cells cs 265 (0, 0))) (h0 : cs[0]? = some (.int .i64 d)) : (Go.method 538 263 (.pointer (some ⟨b, 0, none⟩)) "schemes/infer.depth").run Tryz.prog w = .ok (284, .agg #[.int .i64 d]) w := by
  have e : (Go.method 538 263 (.pointer (some ⟨b, 0, none⟩)) "schemes/infer.depth").run Tryz.prog w = ((do let v ← loadVar 260 ⟨b, 0, none⟩; pure (284, v)) : Sem (FuncId × Value)).run Tryz.prog w := by kernel_rfl
  rw [e]
  simp [go_sem, World.cell?, h, h0]
theorem mdep_Fu (b : Nat) (w : World) (cs : Array Value) (d : Int) (h : w.heap[b]? = some (.cells cs 268 (0, 0))) (h0 : cs[0]? = some (.int .i64 d)) : (Go.method 538 266 (.pointer (some ⟨b, 0, none⟩)) "schemes/infer.depth").run Tryz.prog w = .ok (284, .agg #[.int .i64 d]) w := by
  have e : (Go.method 538 266 (.pointer (some ⟨b, 0, none⟩)) "schemes/infer.depth").run Tryz.prog w = ((do let v ← loadVar 260 ⟨b, 0, none⟩; pure (284, v)) : Sem (FuncId × Value)).run Tryz.prog w := by kernel_rfl
  rw [e]
  simp [go_sem, World.cell?, h, h0]
theorem mdep_If (b : Nat) (w : World) (cs : Array Value) (d : Int) (h : w.heap[b]? = some (.cells cs 332 (0, 0))) (h0 : cs[0]? = some (.int .i64 d)) : (Go.method 538 269 (.pointer (some ⟨b, 0, none⟩)) "schemes/infer.depth").run Tryz.prog w = .ok (284, .agg #[.int .i64 d]) w := by
  have e : (Go.method 538 269 (.pointer (some ⟨b, 0, none⟩)) "schemes/infer.depth").run Tryz.prog w = ((do let v ← loadVar 260 ⟨b, 0, none⟩; pure (284, v)) : Sem (FuncId × Value)).run Tryz.prog w := by kernel_rfl
  rw [e]
  simp [go_sem, World.cell?, h, h0]
theorem mdep_Le (b : Nat) (w : World) (cs : Array Value) (d : Int) (h : w.heap[b]? = some (.cells cs 273 (0, 0))) (h0 : cs[0]? = some (.int .i64 d)) : (Go.method 538 271 (.pointer (some ⟨b, 0, none⟩)) "schemes/infer.depth").run Tryz.prog w = .ok (284, .agg #[.int .i64 d]) w := by
  have e : (Go.method 538 271 (.pointer (some ⟨b, 0, none⟩)) "schemes/infer.depth").run Tryz.prog w = ((do let v ← loadVar 260 ⟨b, 0, none⟩; pure (284, v)) : Sem (FuncId × Value)).run Tryz.prog w := by kernel_rfl
  rw [e]
  simp [go_sem, World.cell?, h, h0]
theorem mdep_Re (b : Nat) (w : World) (cs : Array Value) (d : Int) (h : w.heap[b]? = some (.cells cs 341 (0, 0))) (h0 : cs[0]? = some (.int .i64 d)) : (Go.method 538 274 (.pointer (some ⟨b, 0, none⟩)) "schemes/infer.depth").run Tryz.prog w = .ok (284, .agg #[.int .i64 d]) w := by
  have e : (Go.method 538 274 (.pointer (some ⟨b, 0, none⟩)) "schemes/infer.depth").run Tryz.prog w = ((do let v ← loadVar 260 ⟨b, 0, none⟩; pure (284, v)) : Sem (FuncId × Value)).run Tryz.prog w := by kernel_rfl
  rw [e]
  simp [go_sem, World.cell?, h, h0]
theorem mdep_Ap (b : Nat) (w : World) (cs : Array Value) (d : Int) (h : w.heap[b]? = some (.cells cs 280 (0, 0))) (h0 : cs[0]? = some (.int .i64 d)) : (Go.method 538 276 (.pointer (some ⟨b, 0, none⟩)) "schemes/infer.depth").run Tryz.prog w = .ok (284, .agg #[.int .i64 d]) w := by
  have e : (Go.method 538 276 (.pointer (some ⟨b, 0, none⟩)) "schemes/infer.depth").run Tryz.prog w = ((do let v ← loadVar 260 ⟨b, 0, none⟩; pure (284, v)) : Sem (FuncId × Value)).run Tryz.prog w := by kernel_rfl
  rw [e]
  simp [go_sem, World.cell?, h, h0]
theorem mdep_Pa (b : Nat) (w : World) (cs : Array Value) (d : Int) (h : w.heap[b]? = some (.cells cs 283 (0, 0))) (h0 : cs[0]? = some (.int .i64 d)) : (Go.method 538 281 (.pointer (some ⟨b, 0, none⟩)) "schemes/infer.depth").run Tryz.prog w = .ok (284, .agg #[.int .i64 d]) w := by
  have e : (Go.method 538 281 (.pointer (some ⟨b, 0, none⟩)) "schemes/infer.depth").run Tryz.prog w = ((do let v ← loadVar 260 ⟨b, 0, none⟩; pure (284, v)) : Sem (FuncId × Value)).run Tryz.prog w := by kernel_rfl
  rw [e]
  simp [go_sem, World.cell?, h, h0]
theorem PX.dep {w : World} {P : Nat → Prop} {x : X} {v : Value} (h : PX w P x v) : ∃ T u, v = .iface T u ∧ (Go.method 538 T u "schemes/infer.depth").run Tryz.prog w = .ok (284, .agg #[.int .i64 (dp x)]) w := by
  cases h with
  | name n loc b _ _ h => exact ⟨_, _, rfl, mdep_Na b w _ _ h (by simp [dp, dps])⟩
  | num n loc b _ _ h => exact ⟨_, _, rfl, mdep_Nu b w _ _ h (by simp [dp, dps])⟩
  | fn n x loc b p _ _ h => exact ⟨_, _, rfl, mdep_Fu b w _ _ h (by simp [dp, dps])⟩
  | ite x y z loc b p q r _ h => exact ⟨_, _, rfl, mdep_If b w _ _ h (by simp [dp, dps])⟩
  | lt n x y loc b p q _ _ h => exact ⟨_, _, rfl, mdep_Le b w _ _ h (by simp [dp, dps])⟩
  | rc names kids y loc b nv vv q ps _ _ _ h => exact ⟨_, _, rfl, mdep_Re b w _ _ h (by simp [dp, dps_append])⟩
  | app x y loc b p q _ h => exact ⟨_, _, rfl, mdep_Ap b w _ _ h (by simp [dp, dps])⟩
  | pair x y loc b p q _ h => exact ⟨_, _, rfl, mdep_Pa b w _ _ h (by simp [dp, dps])⟩
theorem PX.kp {w w' : World} {P : Nat → Prop} {x : X} {v : Value} (h : PX w P x v) (k : Kp (fun _ => False) w w') : PX w' P x v := h.keep (fun b _ hb => k.block b hb (fun z => z))

set_option maxRecDepth 20000 in
set_option maxHeartbeats 1000000 in
theorem above_any (xs : List X) (ps : List Value) (g c : Nat) (w : World) (P : Nat → Prop) (hl : ps.length = xs.length) (hg : ∀ j, j < ps.length → w.cell? ⟨g, j, none⟩ = ps[j]?) (hx : ∀ (j : Nat) (x : X) (p : Value), xs[j]? = some x → ps[j]? = some p → PX w P x p) (hb : ps.length ≤ 1000000) (hd : dps xs ≤ 1000000) :
    Calls Tryz.prog 175 #[.slice (some ⟨g, 0, none⟩) ps.length c] w fun e w' => e = .returned (.agg #[.int .i64 (dps xs + 1 : Nat)]) ∧ Kp (fun _ => False) w w' := by
  have HL : Hid (ps.length = xs.length) := hl
  clear hl
  go_enter Tryz.func175, Tryz.ntmps175
  go_wp2
  have hk0 : Kp (fun _ => False) w (w.alloc (.cells #[.int .i64 0] 260)) := (Kp.refl _ _).alloc _
  have hc0 : (w.alloc (.cells #[.int .i64 0] 260)).heap[w.heap.size]? = some (.cells #[.int .i64 0] 260 (0, 0)) := heap_alloc_new _ _
  generalize w.alloc (.cells #[.int .i64 0] 260) = w0 at *
  go_loopw [3, 8] (fun d i wr => Kp (fun _ => False) w0 wr ∧ ∃ q : Nat, q ≤ ps.length ∧ i = .int .i64 q ∧ d = .int .i64 (dps (xs.take q))) (fun _ i _ => ps.length - (intOf i).toNat)
  case atStart => exact ⟨Kp.refl _ _, 0, Nat.zero_le _, rfl, by simp [dps]⟩
  case round =>
    obtain ⟨hkr, q, hq, rfl, rfl⟩ := hrel
    by_cases hlt : q < ps.length
    · have hxl : q < xs.length := by rw [← HL.out]; exact hlt
      have hpx := (hx q xs[q] ps[q] (by simp [hxl]) (by simp [hlt])).kp (hk0.trans hkr)
      obtain ⟨T, u, hTu, hm⟩ := hpx.dep
      have hgc := hg q hlt
      rw [List.getElem?_eq_getElem hlt, hTu] at hgc
      have hc := (hk0.trans hkr).cell hgc
      have hst : Hid (dps (xs.take (q + 1)) = max (dps (xs.take q)) (dp xs[q])) := by
        show _ = _
        rw [List.take_succ_eq_append_getElem hxl, dps_append]
      have hle := dps_le (List.getElem_mem hxl)
      have htl := dps_take_le xs q
      clear hpx hgc hTu hx hg hk0
      generalize dp xs[q] = d at *
      generalize dps (xs.take q) = nq at *
      go_wp2_with (go_at_call 284; refine (pdep_any _ _).mono ?_; rintro e w1 ⟨rfl, hk1⟩)
      refine ⟨⟨hkr.trans hk1, q + 1, by omega, by go_num, ?_⟩, by simp [intOf]; omega⟩
      rw [hst.out]
      congr 1
      split <;> omega
    · have hq2 : q = xs.length := by rw [← HL.out]; omega
      have hk : Hid (xs.take q = xs) := by show _ = _; rw [hq2, List.take_length]
      have hle := dps_take_le xs q
      have hcr := hkr.blk hc0 (fun z => z)
      have r0 : wr.cell? ⟨w.heap.size, 0, none⟩ = some (.int .i64 0) := by simp [World.cell?, hcr]
      have f0 : wr.frozen? ⟨w.heap.size, 0, none⟩ = false := by simp [World.frozen?, hcr]
      clear hx hg hq2
      have d0 : (wr.setCell ⟨w.heap.size, 0, none⟩ (.int .i64 ((dps (xs.take q) : Nat) + 1))).cell? ⟨w.heap.size, 0, none⟩ = some (.int .i64 ((dps (xs.take q) : Nat) + 1)) := by simp [World.cell?, World.setCell, hcr, Array.getElem?_modify]
      have hF : Kp (fun _ => False) w (wr.setCell ⟨w.heap.size, 0, none⟩ (.int .i64 ((dps (xs.take q) : Nat) + 1))) := (hk0.trans hkr).setCell _ _ (fun z => by simp at z)
      clear hcr hc0
      go_wp2
      exact bodyPost_ret (v := .agg #[.int .i64 ((dps (xs.take q) : Nat) + 1)]) (by simp [results, Tryz.results175, go_sem, d0]) rfl ⟨by rw [hk.out]; rfl, hF⟩
theorem above_none (w : World) : Calls Tryz.prog 175 #[.slice none 0 0] w fun e w' => e = .returned (.agg #[.int .i64 1]) ∧ Kp (fun _ => False) w w' := by
  go_enter Tryz.func175, Tryz.ntmps175
  go_wp2
  have hk0 : Kp (fun _ => False) w (w.alloc (.cells #[.int .i64 0] 260)) := (Kp.refl _ _).alloc _
  have hcr : (w.alloc (.cells #[.int .i64 0] 260)).heap[w.heap.size]? = some (.cells #[.int .i64 0] 260 (0, 0)) := heap_alloc_new _ _
  generalize w.alloc (.cells #[.int .i64 0] 260) = wr at *
  have r0 : wr.cell? ⟨w.heap.size, 0, none⟩ = some (.int .i64 0) := by simp [World.cell?, hcr]
  have f0 : wr.frozen? ⟨w.heap.size, 0, none⟩ = false := by simp [World.frozen?, hcr]
  have d0 : (wr.setCell ⟨w.heap.size, 0, none⟩ (.int .i64 1)).cell? ⟨w.heap.size, 0, none⟩ = some (.int .i64 1) := by simp [World.cell?, World.setCell, hcr, Array.getElem?_modify]
  have hF : Kp (fun _ => False) w (wr.setCell ⟨w.heap.size, 0, none⟩ (.int .i64 1)) := hk0.setCell _ _ (fun z => by simp at z)
  clear hcr
  refine wp_loop_rounds 1 ?_
  rw [rounds_succ]
  go_wp2
  exact bodyPost_ret (v := .agg #[.int .i64 1]) (by simp [results, Tryz.results175, go_sem, d0]) rfl ⟨rfl, hF⟩
end Go.Proofs.YtleenphlgbklmaaGreatDoor
