import Derived.Test.YtleenphlgbklmabGreatDoorXPEv
set_option linter.unusedVariables false
set_option linter.unusedSimpArgs false
namespace Go.Proofs.YtleenphlgbklmabGreatDoor
open Go.RowKit

/-- a map's next entry, wherever the counter lies. -/
theorem next_at {P : Program} (w : World) (ty : TypeId) (it bm since c0 : Nat) (seen : Array Nat) (es : Array MapEntry) (clock : Nat) (hit : w.heap[it]? = some (.mapIter (some bm) since seen c0)) (hb : w.heap[bm]? = some (.map es clock)) (hold : ∀ x ∈ es.toList, x.born < since) (hsc : since ≤ c0) :
    ((leftOf es seen).size = 0 ∧ (Instr.next (.pointer (some ⟨it, 0, none⟩)) false ty).run P w = .ok (.tuple #[.bool false]) w) ∨
    ∃ e ∈ (leftOf es seen).toList, ∃ w1 : World, (Instr.next (.pointer (some ⟨it, 0, none⟩)) false ty).run P w = .ok (.tuple #[.bool true, e.key, e.val]) w1 ∧ w1.heap[it]? = some (.mapIter (some bm) since (seen.push e.born) clock) ∧ (∀ k, k ≠ it → w1.heap[k]? = w.heap[k]?) ∧ w1.os = w.os ∧ w1.output = w.output ∧ w1.heap.size = w.heap.size := by
  simp only [Instr.next, getObj, Sem.run_bind, Sem.run, hit, hb, Result.andThen, next_test_false seen es since c0 hold hsc, Bool.false_eq_true, if_false]
  unfold leftOf
  have hmem : ∀ x ∈ (Array.filter (fun e => !seen.contains e.born) es).toList, x.born < since := fun x hx => hold x (by simp at hx ⊢; exact hx.1)
  generalize Array.filter (fun e => !seen.contains e.born) es = L at hmem ⊢
  have e1 : L.filter (fun x => decide (x.born < since)) = L := Array.filter_eq_self.2 (fun x hx => by simpa using hmem x (by simpa using hx))
  have e2 : L.filter (fun x => decide (x.born ≥ since)) = #[] := by
    rw [Array.filter_eq_empty_iff]
    intro x hx
    have := hmem x (by simpa using hx)
    simp
    omega
  simp only [e1, e2, Array.append_empty]
  by_cases h0 : L.size = 0
  · left
    have : L = #[] := Array.eq_empty_of_size_eq_zero h0
    subst this
    refine ⟨rfl, ?_⟩
    simp [choose, Sem.run, Question.forced]
  · right
    have hne : L.isEmpty = false := by simp [Array.isEmpty, h0]
    simp only [hne, Bool.false_eq_true, if_false, Array.empty_append, Array.size_map]
    have hch : ∃ (j : Nat) (w1 : World), j < L.size ∧ w1.Alike w ∧ (choose (Question.mapNext L.size)).run P w = .ok j w1 := by
      by_cases hf : L.size ≤ 1
      · exact ⟨0, w, by omega, ⟨rfl, rfl, rfl⟩, by simp [choose, Sem.run, Question.forced, hf]⟩
      · exact ⟨_, w.drew, Nat.mod_lt _ (by omega), ⟨rfl, rfl, rfl⟩, by
          simp only [choose, Sem.run, Question.forced, decide_eq_true_eq, hf, if_false, Question.cut]
          rfl⟩
    obtain ⟨j, w1, hj, hal, hrun⟩ := hch
    have hil : it < w.heap.size := lt_of_block hit
    have hit1 : w1.heap[it]? = some (.mapIter (some bm) since seen c0) := by rw [hal.1]; exact hit
    have hset : ∀ o', (setObj it o').run P w1 = .ok () (mapSet w1 it o') := fun o' => by
      simp only [setObj, Sem.run, hit1]
      rfl
    refine ⟨L[j], by simp, mapSet w1 it (.mapIter (some bm) since (seen.push L[j].born) clock), ?_, mapSet_same _ _ _ (by rw [hal.1]; exact hil), fun k hk => by rw [mapSet_other _ _ _ _ hk, hal.1], hal.2.1, hal.2.2, by simp [mapSet, hal.1]⟩
    simp only [hrun, Array.getElem?_map, Array.getElem?_eq_getElem hj, Option.map_some, Sem.run_bind, hset, Result.andThen]
    rfl
theorem entry_at {P : Program} (w : World) (it bm since : Nat) (seen : Array Nat) (es : Array MapEntry) (clock : Nat) (e : MapEntry) (hit : w.heap[it]? = some (.mapIter (some bm) since (seen.push e.born) clock)) (hb : w.heap[bm]? = some (.map es clock)) (he : e ∈ es.toList) (hn : (es.toList.map (·.born)).Nodup) :
    (Instr.entry (.pointer (some ⟨it, 0, none⟩))).run P w = .ok (.tuple #[e.key, e.val]) w := by
  have hf : es.find? (·.born == e.born) = some e := by rw [← Array.find?_toList]; exact find_born e es.toList hn he
  simp only [Instr.entry, getObj, Sem.run_bind, Sem.run, hit, hb, Result.andThen, Array.back?_push, bne_self_eq_false, Bool.false_eq_true, if_false, hf]
  rfl
end Go.Proofs.YtleenphlgbklmabGreatDoor

namespace Go.Proofs.YtleenphlgbklmabGreatDoor
open Go.RowKit

theorem tEs_mem {kv : List (ByteArray × ByteArray)} {e : MapEntry} (h : e ∈ (tEs kv).toList) : ∃ j, j < kv.length ∧ e = tEnt kv j := by
  simp only [tEs, List.mem_map, List.mem_range] at h
  obtain ⟨j, hj, rfl⟩ := h
  exact ⟨j, hj, rfl⟩
theorem tEs_nodup (kv : List (ByteArray × ByteArray)) : ((tEs kv).toList.map (·.born)).Nodup := by
  have : (tEs kv).toList.map (·.born) = List.range kv.length := by
    simp only [tEs, List.map_map]
    exact List.map_id _
  rw [this]
  exact List.nodup_range
theorem Tryz.partT (x : ByteArray) (w : World) : (part 9 #[.string x] 0).run Tryz.prog w = .ok (.string x) w := by kernel_rfl
theorem eqT1 (x : ByteArray) (w : World) (d : Nat) : (Op.equalIn (d + 1) 9 (.string x) (.string x)).run Tryz.prog w = .ok true w := by
  rw [Op.equalIn]
  simp [run_underlying Tryz.underlying9, ba_beq]
theorem eqT2 (x : ByteArray) (w : World) (d : Nat) : (Op.equalIn (d + 1 + 1) 68 (.agg #[.string x]) (.agg #[.string x])).run Tryz.prog w = .ok true w := by
  rw [Op.equalIn]
  simp [run_underlying Tryz.underlying68, Tryz.partT, eqT1, Result.andThen]
theorem neT (x : ByteArray) (w : World) : (binOp .neq 68 (.agg #[.string x]) (.agg #[.string x])).run Tryz.prog w = .ok (.bool false) w := by
  have h : (Op.equal 68 (.agg #[.string x]) (.agg #[.string x])).run Tryz.prog w = .ok true w := eqT2 x w 9998
  simp [binOp, h, Result.andThen]
set_option maxRecDepth 20000 in
set_option maxHeartbeats 4000000 in
theorem mequal_sx {w : World} {m1 m2 : Nat} {kv : List (ByteArray × ByteArray)} (h1 : SM w m1 kv) (h2 : SM w m2 kv) :
    Calls Tryz.prog 31 #[.map (some m1), .map (some m2)] w fun e w' => e = .returned (.bool true) ∧ Kept w w' := by
  have hrg := run_range_map (P := Tryz.prog) w 60 9 68 m1 (tEs kv) kv.length Tryz.underlying60 h1.mp
  have hts : (tEs kv).size = kv.length := by simp [tEs]
  have hl1 : (Builtin.len_ #[60] 3 #[.map (some m1)]).run Tryz.prog w = .ok (.int .i64 (kv.length : Int)) w := by
    simp [Builtin.len_, run_underlying Tryz.underlying60, MapKept.run_getObj_map h1.mp, Result.andThen, hts, goInt]
  have hl2 : (Builtin.len_ #[60] 3 #[.map (some m2)]).run Tryz.prog w = .ok (.int .i64 (kv.length : Int)) w := by
    simp [Builtin.len_, run_underlying Tryz.underlying60, MapKept.run_getObj_map h2.mp, Result.andThen, hts, goInt]
  have H1 : Hid _ := h1
  have H2 : Hid _ := h2
  clear h1 h2
  go_enter Tryz.func31, Tryz.ntmps31
  go_wp2_with fail
  clear hl1 hl2 hrg
  have hit0 := heap_alloc_new w (.mapIter (some m1) kv.length #[] kv.length)
  have hk0 : Kept w (w.alloc (.mapIter (some m1) kv.length #[] kv.length)) := Kept.alloc _ _
  generalize w.alloc (.mapIter (some m1) kv.length #[] kv.length) = W at *
  go_loopw [] (fun w' => ∃ seen : Array Nat, Hid (w'.heap[w.heap.size]? = some (.mapIter (some m1) kv.length seen kv.length)) ∧ Hid (Kept w w')) (fun w' => (leftOf (tEs kv) (w'.iterSeen w.heap.size)).size)
  case atStart => exact ⟨#[], hit0, hk0⟩
  case round =>
    clear hit0 hk0
    obtain ⟨seen, HIT, HK⟩ := hrel
    have hb1 : wr.heap[m1]? = some (.map (tEs kv) kv.length) := HK.out.blk H1.out.mp
    have law := next_at (P := Tryz.prog) wr 0 w.heap.size m1 kv.length kv.length seen (tEs kv) kv.length HIT.out hb1 (fun x hx => by obtain ⟨i, hi, rfl⟩ := tEs_mem hx; exact hi) (Nat.le_refl _)
    rcases law with ⟨h0, hrun⟩ | ⟨e, he, w1, hrun, hit1, hot, hos, hou, hsz⟩
    · have hrun' : ∀ ty, (Instr.next (.pointer (some ⟨w.heap.size, 0, none⟩)) false ty).run Tryz.prog wr = .ok (.tuple #[.bool false]) wr := fun _ => hrun
      clear hrun hb1 h0
      go_wp2
      go_ret
      exact ⟨rfl, HK.out⟩
    · obtain ⟨i, hi, rfl⟩ := tEs_mem (mem_left he).1
      have hrun' : ∀ ty, (Instr.next (.pointer (some ⟨w.heap.size, 0, none⟩)) false ty).run Tryz.prog wr = .ok (.tuple #[.bool true, .string (kAt kv i).1, .agg #[.string (kAt kv i).2]]) w1 := fun _ => hrun
      have hk1 : Kept w w1 := ⟨hos.trans HK.out.os, hou.trans HK.out.output, by rw [hsz]; exact HK.out.size, fun k hk => (hot k (by omega)).trans (HK.out.block k hk)⟩
      have hb2 : w1.heap[m1]? = some (.map (tEs kv) kv.length) := hk1.blk H1.out.mp
      have hen : (Instr.entry (.pointer (some ⟨w.heap.size, 0, none⟩))).run Tryz.prog w1 = .ok (.tuple #[.string (kAt kv i).1, .agg #[.string (kAt kv i).2]]) w1 := entry_at w1 w.heap.size m1 kv.length seen (tEs kv) kv.length (tEnt kv i) hit1 hb2 (mem_left he).1 (tEs_nodup kv)
      have hm2 : ∀ W, Kept w W → (Instr.lookup 60 (.map (some m2)) (.string (kAt kv i).1) true).run Tryz.prog W = .ok (.tuple #[.agg #[.string (kAt kv i).2], .bool true]) W := fun W hW => by
        have := run_tlook 60 Tryz.underlying60 W m2 kv (kAt kv i).1 ⟨hW.blk H2.out.mp, H2.out.nd⟩
        rw [this]
        have gd : kAt kv i = kv[i] := by simp [kAt, List.getD, hi]
        have : kv.findIdx? (fun x => sameS x.1 (kAt kv i).1) = some i := by
          rw [List.findIdx?_eq_some_iff_getElem]
          refine ⟨hi, (sameS_iff _ _).2 (by rw [gd]), ?_⟩
          intro j hj z
          have z := (sameS_iff _ _).1 z
          have := (List.pairwise_iff_getElem.1 H2.out.nd) j i (by simp; omega) (by simpa using hi) hj
          simp at this
          rw [gd] at z
          exact this z
        rw [this]
      have HIT1 : Hid _ := hit1
      have HK1 : Hid _ := hk1
      have HM : Hid _ := hm2
      have HME : Hid _ := he
      have HSE : Hid _ := HIT.out
      clear hrun hb1 hb2 hit1 hk1 hot hos hou hsz he hm2
      have hka : Kept w (w1.alloc (.cells #[.string (kAt kv i).2] 68)) := HK1.out.trans (Kept.alloc _ _)
      have hkb : Kept w ((w1.alloc (.cells #[.string (kAt kv i).2] 68)).alloc (.cells #[.string (kAt kv i).2] 68)) := hka.trans (Kept.alloc _ _)
      have hlk := HM.out _ hka
      have hne := neT (kAt kv i).2 ((w1.alloc (.cells #[.string (kAt kv i).2] 68)).alloc (.cells #[.string (kAt kv i).2] 68))
      have HKB : Hid _ := hkb
      have HIF : Hid (((w1.alloc (.cells #[.string (kAt kv i).2] 68)).alloc (.cells #[.string (kAt kv i).2] 68)).heap[w.heap.size]? = some (.mapIter (some m1) kv.length (seen.push (tEnt kv i).born) kv.length)) := ((Kept.alloc _ _).trans (Kept.alloc _ _)).blk HIT1.out
      clear hka hkb HM HK1
      go_wp2_with fail
      refine ⟨⟨_, HIF.out, HKB.out⟩, ?_⟩
      have q1 : ((w1.alloc (.cells #[.string (kAt kv i).2] 68)).alloc (.cells #[.string (kAt kv i).2] 68)).iterSeen w.heap.size = seen.push (tEnt kv i).born := by
        unfold World.iterSeen
        rw [HIF.out]
      have q2 : wr.iterSeen w.heap.size = seen := by
        unfold World.iterSeen
        rw [HSE.out]
      rw [q1, q2]
      exact left_shrinks (tEs kv) seen (tEnt kv i) HME.out
end Go.Proofs.YtleenphlgbklmabGreatDoor
