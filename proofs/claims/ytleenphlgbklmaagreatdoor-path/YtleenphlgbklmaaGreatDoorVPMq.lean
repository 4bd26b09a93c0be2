import Derived.Test.YtleenphlgbklmaaGreatDoorVPIn
set_option linter.unusedVariables false
set_option linter.unusedSimpArgs false
namespace Go.Proofs.YtleenphlgbklmaaGreatDoor
open Go.RowKit

/-- a list of texts lies in memory. -/
def RowS (w : World) (v : Value) (l : List ByteArray) : Prop := ∃ ao cap g, v = .slice ao l.length cap ∧ ∀ (q : Nat) (x : ByteArray), l[q]? = some x → ao = some ⟨g, 0, none⟩ ∧ ∃ cs, w.heap[g]? = some (.cells cs 9 (0, 0)) ∧ cs[q]? = some (.string x)
theorem RowS.kept {w w' : World} {v : Value} {l : List ByteArray} (h : RowS w v l) (k : Kept w w') : RowS w' v l := by
  obtain ⟨ao, cap, g, h1, h2⟩ := h
  exact ⟨ao, cap, g, h1, fun q x hx => by
    obtain ⟨e1, cs, e2, e3⟩ := h2 q x hx
    exact ⟨e1, cs, k.blk e2, e3⟩⟩
theorem Tryz.mkT (w : World) : (Instr.makeMap 94 none).run Tryz.prog w = .ok (.map (some w.heap.size)) (w.alloc (.map #[] 0)) := by kernel_rfl
set_option maxRecDepth 20000 in
set_option maxHeartbeats 4000000 in
theorem env_sx {w : World} {kv : List (ByteArray × ByteArray)} {nv tv : Value} (hn : RowS w nv (kv.map Prod.fst)) (ht : RowS w tv (kv.map Prod.snd)) (hd : (kv.map Prod.fst).Nodup) (hl : kv.length ≤ 1000) :
    Calls Tryz.prog 53 #[nv, tv] w fun e w' => ∃ mb, e = .returned (.map (some mb)) ∧ SM w' mb kv ∧ Kept w w' ∧ w.heap.size ≤ mb := by
  obtain ⟨ao, cap, g, rfl, hr⟩ := hn
  obtain ⟨ao2, cap2, g2, rfl, hr2⟩ := ht
  have m1 := Tryz.mkT w
  have hk0 : Kept w (w.alloc (.map #[] 0)) := Kept.alloc _ _
  have hm0 := heap_alloc_new w (.map #[] 0)
  rw [List.length_map, List.length_map]
  go_enter Tryz.func53, Tryz.ntmps53
  go_wp2_with fail
  generalize w.alloc (.map #[] 0) = W at *
  have HR : Hid _ := hr
  have HR2 : Hid _ := hr2
  have HK0 : Hid _ := hk0
  have HD : Hid _ := hd
  have HM0 : Hid _ := hm0
  clear hr hr2 hk0 hm0 m1 hd
  go_loopw [10] (fun i wr => ∃ q : Nat, q ≤ kv.length ∧ i = .int .i64 q ∧ Hid (SM wr w.heap.size (kv.take q)) ∧ Hid (Kt [] (fun q => q = w.heap.size) W wr)) (fun i _ => kv.length - (intOf i).toNat)
  case atStart => exact ⟨0, Nat.zero_le _, rfl, ⟨HM0.out, by simp⟩, Kt.refl _ _ _⟩
  case round =>
    clear HM0
    obtain ⟨q, hq, rfl, HS, HT⟩ := hrel
    by_cases hlt : q < kv.length
    · obtain ⟨⟨n, ty⟩, hy⟩ : ∃ y, kv[q]? = some y := ⟨kv[q], by simp [hlt]⟩
      obtain ⟨rfl, cs, hg, hcq⟩ := HR.out q n (by rw [List.getElem?_map, hy]; rfl)
      obtain ⟨rfl, cs2, hg2, hcq2⟩ := HR2.out q ty (by rw [List.getElem?_map, hy]; rfl)
      have tk : kv.take (q + 1) = kv.take q ++ [(n, ty)] := by
        rw [List.take_succ_eq_append_getElem hlt]
        congr 2
        rw [List.getElem?_eq_getElem hlt] at hy
        simpa using hy
      have hkd : Kt [] (fun q => q = w.heap.size) W wr.drew := HT.out.trans (Kt.of_kept (Kept.drew wr))
      have nt : ∀ (cs : Array Value), ¬ TB (.cells cs 9 (0, 0)) := by
        rintro cs ⟨cs', e, f, he, ht⟩
        simp only [Obj.cells.injEq] at he
        obtain ⟨_, rfl, _⟩ := he
        rcases ht with e | e | e | e <;> cases e
      have hgl := lt_of_block hg
      have hgl2 := lt_of_block hg2
      have hgr := hkd.blk g _ (HK0.out.blk hg) (by show ¬ g = w.heap.size; omega) (nt _)
      have hgr2 := hkd.blk g2 _ (HK0.out.blk hg2) (by show ¬ g2 = w.heap.size; omega) (nt _)
      have c1 : wr.drew.cell? ⟨g, q, none⟩ = some (.string n) := by simp [World.cell?, hgr, hcq]
      have c2 : wr.drew.cell? ⟨g2, q, none⟩ = some (.string ty) := by simp [World.cell?, hgr2, hcq2]
      have hSd : SM wr.drew w.heap.size (kv.take q) := ⟨(Kept.drew wr).blk HS.out.mp, HS.out.nd⟩
      have hfi : (kv.take q).findIdx? (fun x => sameS x.1 n) = none := by
        rw [List.findIdx?_eq_none_iff]
        intro x hx
        rw [Bool.eq_false_iff]
        intro z
        have z := (sameS_iff _ _).1 z
        have hnd : (kv.map Prod.fst).Nodup := HD.out
        have e : kv.map Prod.fst = (kv.take q).map Prod.fst ++ (kv.drop q).map Prod.fst := by rw [← List.map_append, List.take_append_drop]
        rw [e, List.nodup_append] at hnd
        have h3 : n ∈ (kv.drop q).map Prod.fst := by
          rw [List.drop_eq_getElem_cons hlt]
          rw [List.getElem?_eq_getElem hlt] at hy
          simp only [Option.some.injEq] at hy
          simp [hy]
        exact hnd.2.2 x.1 (List.mem_map_of_mem hx) n h3 z
      obtain ⟨w6, hput, hS6, hK6⟩ : ∃ w6, (Instr.mapUpdate 94 (.map (some w.heap.size)) (.string n) (.agg #[.string ty])).run Tryz.prog wr.drew = .ok () w6 ∧ SM w6 w.heap.size (kv.take q ++ [(n, ty)]) ∧ Kt [] (fun q => q = w.heap.size) wr.drew w6 := ⟨_, run_tput 94 Tryz.underlying94 wr.drew w.heap.size (kv.take q) n ty hSd hfi, hSd.put n ty hfi, Kt.mapset hSd.mp _⟩
      rw [← tk] at hS6
      have hg6 := hK6.blk g _ hgr (by show ¬ g = w.heap.size; omega) (nt _)
      have hg62 := hK6.blk g2 _ hgr2 (by show ¬ g2 = w.heap.size; omega) (nt _)
      have c3 : w6.cell? ⟨g, q, none⟩ = some (.string n) := by simp [World.cell?, hg6, hcq]
      have c4 : w6.cell? ⟨g2, q, none⟩ = some (.string ty) := by simp [World.cell?, hg62, hcq2]
      have HS6 : Hid _ := hS6
      have HK6 : Hid _ := hkd.trans hK6
      clear hSd hfi hK6 hkd hgr hgr2 hg hg2 hcq hcq2 hy nt tk HS HT hgl hgl2 hS6 hg6 hg62
      go_wp2_with fail
      go_region_held3 (fun w' => w'.cell? ⟨g, q, none⟩ = some (.string n) ∧ w'.cell? ⟨g2, q, none⟩ = some (.string ty)) (go_keep) (fail)
      all_goals
        go_wp2
        go_roundw
        case measure => simp [intOf]; omega
        case rel => exact ⟨q + 1, hlt, by go_num, HS6.out, HK6.out⟩
    · have hqe : q = kv.length := by omega
      subst hqe
      have HF : Hid (SM wr w.heap.size kv) := by have := HS.out; rwa [List.take_length] at this
      have HKF : Hid (Kept w wr) := Kt.keptBy HK0.out HT.out (fun q z => by have z : q = w.heap.size := z; omega)
      clear HS HT HR HR2
      go_wp2
      go_ret
      exact ⟨_, rfl, HF.out, HKF.out, Nat.le_refl _⟩
end Go.Proofs.YtleenphlgbklmaaGreatDoor

namespace Go.Proofs.YtleenphlgbklmaaGreatDoor
open Go.RowKit

/-- a map's next entry, wherever the counter lies. -/
theorem next_at {P : Program} (w : World) (ty : TypeId) (it bm since c0 : Nat) (seen : Array Nat) (es : Array MapEntry) (clock : Nat) (hit : w.heap[it]? = some (.mapIter (some bm) since seen c0)) (hb : w.heap[bm]? = some (.map es clock)) (hold : ∀ x ∈ es.toList, x.born < since) (hsc : since ≤ c0) :
    ((leftOf es seen).size = 0 ∧ (Instr.next (.pointer (some ⟨it, 0, none⟩)) false ty).run P w = .ok (.tuple #[.bool false]) w) ∨
    ∃ e ∈ (leftOf es seen).toList, ∃ w1 : World, (Instr.next (.pointer (some ⟨it, 0, none⟩)) false ty).run P w = .ok (.tuple #[.bool true, e.key, e.val]) w1 ∧ w1.heap[it]? = some (.mapIter (some bm) since (seen.push e.born) clock) ∧ (∀ k, k ≠ it → w1.heap[k]? = w.heap[k]?) ∧ w1.os = w.os ∧ w1.output = w.output ∧ w1.heap.size = w.heap.size := by
  simp only [Instr.next, getObj, Sem.run_bind, Sem.run, hit, hb, Result.andThen, next_test_false seen es since c0 hold hsc, Bool.false_eq_true, if_false]
  unfold leftOf
  have hmem : ∀ x ∈ (Array.filter (fun e => !seen.contains e.born) es).toList, x.born < since := fun x hx => hold x (by simp at hx ⊢; exact hx.1)
  generalize Array.filter (fun e => !seen.contains e.born) es = L at hmem ⊢
  have e1 : L.filter (fun x => decide (x.born < since)) = L := Array.filter_eq_self.2 (fun x hx => by simpa using hmem x (by simpa using hx))
  have e2 : L.filter (fun x => decide (x.born ≥ since)) = #[] := by
    rw [Array.filter_eq_empty_iff]
    intro x hx
    have := hmem x (by simpa using hx)
    simp
    omega
  simp only [e1, e2, Array.append_empty]
  by_cases h0 : L.size = 0
  · left
    have : L = #[] := Array.eq_empty_of_size_eq_zero h0
    subst this
    refine ⟨rfl, ?_⟩
    simp [choose, Sem.run, Question.forced]
  · right
    have hne : L.isEmpty = false := by simp [Array.isEmpty, h0]
    simp only [hne, Bool.false_eq_true, if_false, Array.empty_append, Array.size_map]
    have hch : ∃ (j : Nat) (w1 : World), j < L.size ∧ w1.Alike w ∧ (choose (Question.mapNext L.size)).run P w = .ok j w1 := by
      by_cases hf : L.size ≤ 1
      · exact ⟨0, w, by omega, ⟨rfl, rfl, rfl⟩, by simp [choose, Sem.run, Question.forced, hf]⟩
      · exact ⟨_, w.drew, Nat.mod_lt _ (by omega), ⟨rfl, rfl, rfl⟩, by
          simp only [choose, Sem.run, Question.forced, decide_eq_true_eq, hf, if_false, Question.cut]
          rfl⟩
    obtain ⟨j, w1, hj, hal, hrun⟩ := hch
    have hil : it < w.heap.size := lt_of_block hit
    have hit1 : w1.heap[it]? = some (.mapIter (some bm) since seen c0) := by rw [hal.1]; exact hit
    have hset : ∀ o', (setObj it o').run P w1 = .ok () (mapSet w1 it o') := fun o' => by
      simp only [setObj, Sem.run, hit1]
      rfl
    refine ⟨L[j], by simp, mapSet w1 it (.mapIter (some bm) since (seen.push L[j].born) clock), ?_, mapSet_same _ _ _ (by rw [hal.1]; exact hil), fun k hk => by rw [mapSet_other _ _ _ _ hk, hal.1], hal.2.1, hal.2.2, by simp [mapSet, hal.1]⟩
    simp only [hrun, Array.getElem?_map, Array.getElem?_eq_getElem hj, Option.map_some, Sem.run_bind, hset, Result.andThen]
    rfl
theorem entry_at {P : Program} (w : World) (it bm since : Nat) (seen : Array Nat) (es : Array MapEntry) (clock : Nat) (e : MapEntry) (hit : w.heap[it]? = some (.mapIter (some bm) since (seen.push e.born) clock)) (hb : w.heap[bm]? = some (.map es clock)) (he : e ∈ es.toList) (hn : (es.toList.map (·.born)).Nodup) :
    (Instr.entry (.pointer (some ⟨it, 0, none⟩))).run P w = .ok (.tuple #[e.key, e.val]) w := by
  have hf : es.find? (·.born == e.born) = some e := by rw [← Array.find?_toList]; exact find_born e es.toList hn he
  simp only [Instr.entry, getObj, Sem.run_bind, Sem.run, hit, hb, Result.andThen, Array.back?_push, bne_self_eq_false, Bool.false_eq_true, if_false, hf]
  rfl
end Go.Proofs.YtleenphlgbklmaaGreatDoor

namespace Go.Proofs.YtleenphlgbklmaaGreatDoor
open Go.RowKit

theorem tEs_mem {kv : List (ByteArray × ByteArray)} {e : MapEntry} (h : e ∈ (tEs kv).toList) : ∃ j, j < kv.length ∧ e = tEnt kv j := by
  simp only [tEs, List.mem_map, List.mem_range] at h
  obtain ⟨j, hj, rfl⟩ := h
  exact ⟨j, hj, rfl⟩
theorem tEs_nodup (kv : List (ByteArray × ByteArray)) : ((tEs kv).toList.map (·.born)).Nodup := by
  have : (tEs kv).toList.map (·.born) = List.range kv.length := by
    simp only [tEs, List.map_map]
    exact List.map_id _
  rw [this]
  exact List.nodup_range
theorem Tryz.partT (x : ByteArray) (w : World) : (part 9 #[.string x] 0).run Tryz.prog w = .ok (.string x) w := by kernel_rfl
theorem eqT1 (x : ByteArray) (w : World) (d : Nat) : (Op.equalIn (d + 1) 9 (.string x) (.string x)).run Tryz.prog w = .ok true w := by
  rw [Op.equalIn]
  simp [run_underlying Tryz.underlying9, ba_beq]
theorem eqT2 (x : ByteArray) (w : World) (d : Nat) : (Op.equalIn (d + 1 + 1) 102 (.agg #[.string x]) (.agg #[.string x])).run Tryz.prog w = .ok true w := by
  rw [Op.equalIn]
  simp [run_underlying Tryz.underlying102, Tryz.partT, eqT1, Result.andThen]
theorem neT (x : ByteArray) (w : World) : (binOp .neq 102 (.agg #[.string x]) (.agg #[.string x])).run Tryz.prog w = .ok (.bool false) w := by
  have h : (Op.equal 102 (.agg #[.string x]) (.agg #[.string x])).run Tryz.prog w = .ok true w := eqT2 x w 9998
  simp [binOp, h, Result.andThen]
set_option maxRecDepth 20000 in
set_option maxHeartbeats 4000000 in
theorem mequal_sx {w : World} {m1 m2 : Nat} {kv : List (ByteArray × ByteArray)} (h1 : SM w m1 kv) (h2 : SM w m2 kv) :
    Calls Tryz.prog 55 #[.map (some m1), .map (some m2)] w fun e w' => e = .returned (.bool true) ∧ Kept w w' := by
  have hrg := run_range_map (P := Tryz.prog) w 94 9 102 m1 (tEs kv) kv.length Tryz.underlying94 h1.mp
  have hts : (tEs kv).size = kv.length := by simp [tEs]
  have hl1 : (Builtin.len_ #[94] 3 #[.map (some m1)]).run Tryz.prog w = .ok (.int .i64 (kv.length : Int)) w := by
    simp [Builtin.len_, run_underlying Tryz.underlying94, MapKept.run_getObj_map h1.mp, Result.andThen, hts, goInt]
  have hl2 : (Builtin.len_ #[94] 3 #[.map (some m2)]).run Tryz.prog w = .ok (.int .i64 (kv.length : Int)) w := by
    simp [Builtin.len_, run_underlying Tryz.underlying94, MapKept.run_getObj_map h2.mp, Result.andThen, hts, goInt]
  have H1 : Hid _ := h1
  have H2 : Hid _ := h2
  clear h1 h2
  go_enter Tryz.func55, Tryz.ntmps55
  go_wp2_with fail
  clear hl1 hl2 hrg
  have hit0 := heap_alloc_new w (.mapIter (some m1) kv.length #[] kv.length)
  have hk0 : Kept w (w.alloc (.mapIter (some m1) kv.length #[] kv.length)) := Kept.alloc _ _
  generalize w.alloc (.mapIter (some m1) kv.length #[] kv.length) = W at *
  go_loopw [] (fun w' => ∃ seen : Array Nat, Hid (w'.heap[w.heap.size]? = some (.mapIter (some m1) kv.length seen kv.length)) ∧ Hid (Kept w w')) (fun w' => (leftOf (tEs kv) (w'.iterSeen w.heap.size)).size)
  case atStart => exact ⟨#[], hit0, hk0⟩
  case round =>
    clear hit0 hk0
    obtain ⟨seen, HIT, HK⟩ := hrel
    have hb1 : wr.heap[m1]? = some (.map (tEs kv) kv.length) := HK.out.blk H1.out.mp
    have law := next_at (P := Tryz.prog) wr 0 w.heap.size m1 kv.length kv.length seen (tEs kv) kv.length HIT.out hb1 (fun x hx => by obtain ⟨i, hi, rfl⟩ := tEs_mem hx; exact hi) (Nat.le_refl _)
    rcases law with ⟨h0, hrun⟩ | ⟨e, he, w1, hrun, hit1, hot, hos, hou, hsz⟩
    · have hrun' : ∀ ty, (Instr.next (.pointer (some ⟨w.heap.size, 0, none⟩)) false ty).run Tryz.prog wr = .ok (.tuple #[.bool false]) wr := fun _ => hrun
      clear hrun hb1 h0
      go_wp2
      go_ret
      exact ⟨rfl, HK.out⟩
    · obtain ⟨i, hi, rfl⟩ := tEs_mem (mem_left he).1
      have hrun' : ∀ ty, (Instr.next (.pointer (some ⟨w.heap.size, 0, none⟩)) false ty).run Tryz.prog wr = .ok (.tuple #[.bool true, .string (kAt kv i).1, .agg #[.string (kAt kv i).2]]) w1 := fun _ => hrun
      have hk1 : Kept w w1 := ⟨hos.trans HK.out.os, hou.trans HK.out.output, by rw [hsz]; exact HK.out.size, fun k hk => (hot k (by omega)).trans (HK.out.block k hk)⟩
      have hb2 : w1.heap[m1]? = some (.map (tEs kv) kv.length) := hk1.blk H1.out.mp
      have hen : (Instr.entry (.pointer (some ⟨w.heap.size, 0, none⟩))).run Tryz.prog w1 = .ok (.tuple #[.string (kAt kv i).1, .agg #[.string (kAt kv i).2]]) w1 := entry_at w1 w.heap.size m1 kv.length seen (tEs kv) kv.length (tEnt kv i) hit1 hb2 (mem_left he).1 (tEs_nodup kv)
      have hm2 : ∀ W, Kept w W → (Instr.lookup 94 (.map (some m2)) (.string (kAt kv i).1) true).run Tryz.prog W = .ok (.tuple #[.agg #[.string (kAt kv i).2], .bool true]) W := fun W hW => by
        have := run_tlook 94 Tryz.underlying94 W m2 kv (kAt kv i).1 ⟨hW.blk H2.out.mp, H2.out.nd⟩
        rw [this]
        have gd : kAt kv i = kv[i] := by simp [kAt, List.getD, hi]
        have : kv.findIdx? (fun x => sameS x.1 (kAt kv i).1) = some i := by
          rw [List.findIdx?_eq_some_iff_getElem]
          refine ⟨hi, (sameS_iff _ _).2 (by rw [gd]), ?_⟩
          intro j hj z
          have z := (sameS_iff _ _).1 z
          have := (List.pairwise_iff_getElem.1 H2.out.nd) j i (by simp; omega) (by simpa using hi) hj
          simp at this
          rw [gd] at z
          exact this z
        rw [this]
      have HIT1 : Hid _ := hit1
      have HK1 : Hid _ := hk1
      have HM : Hid _ := hm2
      have HME : Hid _ := he
      have HSE : Hid _ := HIT.out
      clear hrun hb1 hb2 hit1 hk1 hot hos hou hsz he hm2
      have hka : Kept w (w1.alloc (.cells #[.string (kAt kv i).2] 102)) := HK1.out.trans (Kept.alloc _ _)
      have hkb : Kept w ((w1.alloc (.cells #[.string (kAt kv i).2] 102)).alloc (.cells #[.string (kAt kv i).2] 102)) := hka.trans (Kept.alloc _ _)
      have hlk := HM.out _ hka
      have hne := neT (kAt kv i).2 ((w1.alloc (.cells #[.string (kAt kv i).2] 102)).alloc (.cells #[.string (kAt kv i).2] 102))
      have HKB : Hid _ := hkb
      have HIF : Hid (((w1.alloc (.cells #[.string (kAt kv i).2] 102)).alloc (.cells #[.string (kAt kv i).2] 102)).heap[w.heap.size]? = some (.mapIter (some m1) kv.length (seen.push (tEnt kv i).born) kv.length)) := ((Kept.alloc _ _).trans (Kept.alloc _ _)).blk HIT1.out
      clear hka hkb HM HK1
      go_wp2_with fail
      refine ⟨⟨_, HIF.out, HKB.out⟩, ?_⟩
      have q1 : ((w1.alloc (.cells #[.string (kAt kv i).2] 102)).alloc (.cells #[.string (kAt kv i).2] 102)).iterSeen w.heap.size = seen.push (tEnt kv i).born := by
        unfold World.iterSeen
        rw [HIF.out]
      have q2 : wr.iterSeen w.heap.size = seen := by
        unfold World.iterSeen
        rw [HSE.out]
      rw [q1, q2]
      exact left_shrinks (tEs kv) seen (tEnt kv i) HME.out
end Go.Proofs.YtleenphlgbklmaaGreatDoor
