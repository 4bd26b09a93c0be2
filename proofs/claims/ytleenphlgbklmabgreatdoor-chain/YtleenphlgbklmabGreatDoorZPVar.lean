import Derived.Maps.RangeWalk
import Derived.Test.YtleenphlgbklmabGreatDoorZFault
import Derived.Test.YtleenphlgbklmabGreatDoorZTGood
import Derived.Test.YtleenphlgbklmabGreatDoorZWDeep
set_option linter.unusedVariables false
set_option linter.unusedSimpArgs false
namespace Go.Proofs.YtleenphlgbklmabGreatDoor
open Go.RowKit

/-- all that lay there is as it was (the tape may have been asked). -/
structure Kept (w w' : World) : Prop where
  os : w'.os = w.os
  output : w'.output = w.output
  size : w.heap.size ≤ w'.heap.size
  block : ∀ k, k < w.heap.size → w'.heap[k]? = w.heap[k]?
theorem Kept.refl (w : World) : Kept w w := ⟨rfl, rfl, Nat.le_refl _, fun _ _ => rfl⟩
theorem Kept.trans {a b c : World} (h : Kept a b) (k : Kept b c) : Kept a c := ⟨k.os.trans h.os, k.output.trans h.output, Nat.le_trans h.size k.size, fun i hi => (k.block i (Nat.lt_of_lt_of_le hi h.size)).trans (h.block i hi)⟩
theorem Kept.below {w w' : World} (h : Below w.heap.size w w') : Kept w w' := ⟨h.os, h.output, h.size, h.block⟩
theorem Kept.alike {w w' : World} (h : w'.Alike w) : Kept w w' := ⟨h.2.1, h.2.2, by rw [h.1]; exact Nat.le_refl _, fun k _ => by rw [h.1]⟩
theorem Kept.cell {w w' : World} (h : Kept w w') {a : Addr} {v : Value} (e : w.cell? a = some v) : w'.cell? a = some v := (World.cell?_of_block (h.block a.block (World.block_lt_of_cell? _ _ e))).trans e
theorem Kept.blk {w w' : World} (h : Kept w w') {k : Nat} {o : Obj} (e : w.heap[k]? = some o) : w'.heap[k]? = some o := (h.block k (lt_of_block e)).trans e
theorem Glb.kept {A : Nat → Addr} {w w' : World} (h : Glb A w) (hb : Kept w w') : Glb A w' := by
  refine ⟨fun k hk => ?_, h.ne, hb.cell h.c0, hb.cell h.c1, hb.cell h.c2, hb.cell h.c3, hb.cell h.c4, hb.cell h.c5, hb.cell h.c6, hb.cell h.c7, hb.cell h.et⟩
  obtain ⟨c, t, e⟩ := h.blk k hk
  exact ⟨c, t, hb.blk e⟩
theorem Glb.is {A : Nat → Addr} {w : World} (h : Glb A w) (i j : Nat) (hi : i < 8) (hj : j < 8) :
    Calls Tryz.prog 40 #[.iface 342 (.pointer (some (A i))), .iface 342 (.pointer (some (A j)))] w fun e w' => e = .returned (.bool (decide (i = j))) ∧ w' = w := by
  by_cases e : i = j
  · subst e
    have : decide (i = i) = true := by simp
    rw [this]
    exact is_same _ _
  · obtain ⟨c, t, hc⟩ := h.blk i hi
    obtain ⟨c', t', hc'⟩ := h.blk j hj
    have : decide (i = j) = false := by simp [e]
    rw [this]
    exact is_other _ _ c c' t t' w (h.ne i j hi hj e) hc hc'

/-- an entry of the map of sentinels. -/
def senE (A : Nat → Addr) (j : Nat) : MapEntry := { key := .int .i64 (senNo j), val := .iface 342 (.pointer (some (A j))), born := j }
def senEs (A : Nat → Addr) (n : Nat) : Array MapEntry := ((List.range n).map (senE A)).toArray
theorem senEs_succ (A : Nat → Addr) (n : Nat) : (senEs A n).push (senE A n) = senEs A (n + 1) := by
  simp [senEs, List.range_succ]
theorem senEs_mem {A : Nat → Addr} {n : Nat} {e : MapEntry} (h : e ∈ (senEs A n).toList) : ∃ i, i < n ∧ e = senE A i := by
  simp [senEs] at h
  obtain ⟨i, hi, rfl⟩ := h
  exact ⟨i, hi, rfl⟩
theorem senEs_nodup (A : Nat → Addr) (n : Nat) : ((senEs A n).toList.map (·.born)).Nodup := by
  have : (senEs A n).toList.map (·.born) = List.range n := by
    simp only [senEs, List.map_map]
    exact List.map_id'' (fun x => rfl) _
  rw [this]
  exact List.nodup_range
theorem run_insert_new {P : Program} (w : World) (mty kt et : TypeId) (es : Array MapEntry) (clock : Nat) (k : Int) (val : Value) (hm : P.underlying mty = some (.map kt et)) (hk : P.underlying kt = some (.int .i64)) (hf : Instr.findNow (.int .i64) (.int .i64 k) es.toList 0 = some none) (hkk : MapKept.IsKey (.int .i64) (.int .i64 k)) :
    (Instr.mapUpdate mty (.map (some w.heap.size)) (.int .i64 k) val).run P (w.alloc (.map es clock)) = .ok () (w.alloc (.map (es.push { key := .int .i64 k, val := val, born := clock }) (clock + 1))) := by
  have hb : (w.alloc (.map es clock)).heap[w.heap.size]? = some (.map es clock) := heap_alloc_new _ _
  have hc : (Instr.checkKey false 10000 kt (.int .i64 k)).run P (w.alloc (.map es clock)) = .ok () (w.alloc (.map es clock)) := MapKept.run_checkKey hk hkk false 9999
  have hset : ({ w.alloc (.map es clock) with heap := (w.alloc (.map es clock)).heap.setIfInBounds w.heap.size (.map (es.push { key := .int .i64 k, val := val, born := clock }) (clock + 1)) } : World) = w.alloc (.map (es.push { key := .int .i64 k, val := val, born := clock }) (clock + 1)) := by
    have h : (w.heap.push (.map es clock)).setIfInBounds w.heap.size (.map (es.push { key := .int .i64 k, val := val, born := clock }) (clock + 1)) = w.heap.push (.map (es.push { key := .int .i64 k, val := val, born := clock }) (clock + 1)) := by
      apply Array.ext_getElem?
      intro i
      rw [Array.getElem?_setIfInBounds, Array.getElem?_push, Array.getElem?_push]
      by_cases e : w.heap.size = i
      · subst e; simp
      · have e2 : i ≠ w.heap.size := fun q => e q.symm
        simp [e, e2]
    show ({ w with heap := (w.heap.push (.map es clock)).setIfInBounds w.heap.size _ } : World) = { w with heap := w.heap.push _ }
    rw [h]
  simp only [Instr.mapUpdate, Sem.run_bind, run_underlying hm, MapKept.run_getObj_map hb, hc, MapKept.run_findKey hk hf, MapKept.run_setObj_map _ hb, Result.andThen]
  simpa using hset
theorem sen_insert (A : Nat → Addr) (w : World) (j : Nat) (hj : j < 8) :
    (Instr.mapUpdate 98 (.map (some w.heap.size)) (.int .i64 (senNo j)) (.iface 342 (.pointer (some (A j))))).run Tryz.prog (w.alloc (.map (senEs A j) j)) = .ok () (w.alloc (.map (senEs A (j + 1)) (j + 1))) := by
  rw [← senEs_succ]
  refine run_insert_new w 98 3 56 _ _ _ _ Tryz.underlying98 Tryz.underlying3 ?_ ?_
  · match j, hj with
    | 0, _ => rfl
    | 1, _ => rfl
    | 2, _ => rfl
    | 3, _ => rfl
    | 4, _ => rfl
    | 5, _ => rfl
    | 6, _ => rfl
    | 7, _ => rfl
  · simp [MapKept.IsKey]

set_option maxRecDepth 20000 in
set_option maxHeartbeats 4000000 in
theorem fault_sen {A : Nat → Addr} (w : World) (hG : Glb A w) (j : Nat) (hj : j < 8) :
    Calls Tryz.prog 22 #[.iface 342 (.pointer (some (A j)))] w fun e w' => e = .returned (faultVal (senNo j) 0 { data := #[] }) ∧ Kept w w' := by
  have hB := fltW_below w
  have hr := fltW_r w
  have hz := fltW_size w
  have hG1 := hG.below hB
  clear hG
  go_enter Tryz.func22, Tryz.ntmps22
  go_wp2_with fail
  change Calls _ _ _ (fltW w) _
  generalize fltW w = w1 at *
  refine (as_miss_env_es _ _ _ hG1.et).mono ?_
  rintro e w2 ⟨rfl, hww⟩
  have hB2 : Below w1.heap.size w1 w2 := by rw [hww]; exact (((Below.refl _ _).alloc (by simp) _).alloc (by simp) _).alloc (by simp; omega) _
  clear hww
  have hz2 := hB2.size
  have hG2 := hG1.below hB2
  have hr2 := (hB2.block _ (by omega)).trans hr
  have hBB := hB.trans (hB2.mono (by omega))
  clear hB hB2 hG1 hr
  go_wp2_with fail
  refine (as_miss_syn_es _ _ _ hG2.et).mono ?_
  rintro e w3 ⟨rfl, hww⟩
  have hB2 : Below w2.heap.size w2 w3 := by rw [hww]; exact (((Below.refl _ _).alloc (by simp) _).alloc (by simp) _).alloc (by simp; omega) _
  clear hww
  have hz3 := hB2.size
  have hG3 := hG2.below hB2
  have hr3 := (hB2.block _ (by omega)).trans hr2
  have hB3 := hBB.trans (hB2.mono (by omega))
  clear hBB hB2 hG2 hr2
  go_wp2_with fail
  refine (as_miss_unb_es _ _ _ hG3.et).mono ?_
  rintro e w4 ⟨rfl, hww⟩
  have hB2 : Below w3.heap.size w3 w4 := by rw [hww]; exact (((Below.refl _ _).alloc (by simp) _).alloc (by simp) _).alloc (by simp; omega) _
  clear hww
  have hz4 := hB2.size
  have hG4 := hG3.below hB2
  have hr4 := (hB2.block _ (by omega)).trans hr3
  have hB4 := hB3.trans (hB2.mono (by omega))
  clear hB3 hB2 hG3 hr3
  have hwz : w.heap.size + 4 ≤ w4.heap.size := by omega
  clear hz hz2 hz3 hz4
  have gl : ∀ (g : Nat) (v : Value), w4.cell? ⟨g, 0, none⟩ = some v → ∀ o, (w4.alloc o).cell? ⟨g, 0, none⟩ = some v := fun g v e o => (World.cell?_of_block (Below.heap_alloc w4 o g (World.block_lt_of_cell? _ _ e))).trans e
  have c0 := gl _ _ hG4.c0
  have c1 := gl _ _ hG4.c1
  have c2 := gl _ _ hG4.c2
  have c3 := gl _ _ hG4.c3
  have c4 := gl _ _ hG4.c4
  have c5 := gl _ _ hG4.c5
  have c6 := gl _ _ hG4.c6
  have c7 := gl _ _ hG4.c7
  clear gl
  have hmk : (Instr.makeMap 98 none).run Tryz.prog w4 = .ok (.map (some w4.heap.size)) (w4.alloc (.map #[] 0)) := rfl
  have i0 : (Instr.mapUpdate 98 (.map (some w4.heap.size)) (.int .i64 1) (.iface 342 (.pointer (some (A 0))))).run Tryz.prog (w4.alloc (.map #[] 0)) = .ok () (w4.alloc (.map (senEs A 1) 1)) := sen_insert A w4 0 (by decide)
  have i1 : (Instr.mapUpdate 98 (.map (some w4.heap.size)) (.int .i64 3) (.iface 342 (.pointer (some (A 1))))).run Tryz.prog (w4.alloc (.map (senEs A 1) 1)) = .ok () (w4.alloc (.map (senEs A 2) 2)) := sen_insert A w4 1 (by decide)
  have i2 : (Instr.mapUpdate 98 (.map (some w4.heap.size)) (.int .i64 6) (.iface 342 (.pointer (some (A 2))))).run Tryz.prog (w4.alloc (.map (senEs A 2) 2)) = .ok () (w4.alloc (.map (senEs A 3) 3)) := sen_insert A w4 2 (by decide)
  have i3 : (Instr.mapUpdate 98 (.map (some w4.heap.size)) (.int .i64 7) (.iface 342 (.pointer (some (A 3))))).run Tryz.prog (w4.alloc (.map (senEs A 3) 3)) = .ok () (w4.alloc (.map (senEs A 4) 4)) := sen_insert A w4 3 (by decide)
  have i4 : (Instr.mapUpdate 98 (.map (some w4.heap.size)) (.int .i64 8) (.iface 342 (.pointer (some (A 4))))).run Tryz.prog (w4.alloc (.map (senEs A 4) 4)) = .ok () (w4.alloc (.map (senEs A 5) 5)) := sen_insert A w4 4 (by decide)
  have i5 : (Instr.mapUpdate 98 (.map (some w4.heap.size)) (.int .i64 9) (.iface 342 (.pointer (some (A 5))))).run Tryz.prog (w4.alloc (.map (senEs A 5) 5)) = .ok () (w4.alloc (.map (senEs A 6) 6)) := sen_insert A w4 5 (by decide)
  have i6 : (Instr.mapUpdate 98 (.map (some w4.heap.size)) (.int .i64 10) (.iface 342 (.pointer (some (A 6))))).run Tryz.prog (w4.alloc (.map (senEs A 6) 6)) = .ok () (w4.alloc (.map (senEs A 7) 7)) := sen_insert A w4 6 (by decide)
  have i7 : (Instr.mapUpdate 98 (.map (some w4.heap.size)) (.int .i64 11) (.iface 342 (.pointer (some (A 7))))).run Tryz.prog (w4.alloc (.map (senEs A 7) 7)) = .ok () (w4.alloc (.map (senEs A 8) 8)) := sen_insert A w4 7 (by decide)
  have hb5 : (w4.alloc (.map (senEs A 8) 8)).heap[w4.heap.size]? = some (.map (senEs A 8) 8) := heap_alloc_new _ _
  have hK5 : Kept w4 (w4.alloc (.map (senEs A 8) 8)) := Kept.below ((Below.refl _ _).alloc (by simp) _)
  have hG5 := hG4.kept hK5
  have hr5 := hK5.blk hr4
  have hKw := (Kept.below hB4).trans hK5
  clear hG4 hr4 hB4 hK5
  have hrg := run_range_map (P := Tryz.prog) (w4.alloc (.map (senEs A 8) 8)) 98 3 56 w4.heap.size (senEs A 8) 8 Tryz.underlying98 hb5
  go_wp2_with fail
  have h5 : (w4.alloc (.map (senEs A 8) 8)).heap.size = w4.heap.size + 1 := by simp
  generalize w4.alloc (.map (senEs A 8) 8) = w5 at *
  clear c0 c1 c2 c3 c4 c5 c6 c7 i0 i1 i2 i3 i4 i5 i6 i7 hmk
  generalize w4.heap.size = bm at *
  go_loopw [] (fun w' => ∃ (v1 : World) (seen : Array Nat), v1.Alike w5 ∧ w' = v1.alloc (.mapIter (some bm) 8 seen 8) ∧ seen.contains j = false) (fun w' => (leftOf (senEs A 8) (w'.iterSeen (bm + 1))).size)
  case atStart => exact ⟨w5, #[], ⟨rfl, rfl, rfl⟩, rfl, by simp⟩
  case round =>
    obtain ⟨v1, seen, hal, rfl, hno⟩ := hrel
    have hsz : v1.heap.size = bm + 1 := by rw [hal.1, h5]
    have hb1 : v1.heap[bm]? = some (.map (senEs A 8) 8) := by rw [hal.1]; exact hb5
    have law := run_next_map (P := Tryz.prog) v1 0 bm 8 8 seen (senEs A 8) 8 hb1 (fun x hx => by obtain ⟨i, hi, rfl⟩ := senEs_mem hx; exact hi) (Nat.le_refl _)
    rw [hsz] at law
    rcases law with ⟨h0, hrun⟩ | ⟨e, he, v2, hal2, hrun⟩
    · exfalso
      have hin : senE A j ∈ (senEs A 8).toList := by simp [senEs]; exact ⟨j, hj, rfl⟩
      have := all_seen (senEs A 8) seen h0 _ hin
      have h2 : seen.contains j = true := this
      rw [hno] at h2
      cases h2
    · obtain ⟨i, hi, rfl⟩ := senEs_mem (mem_left he).1
      have hrun' : ∀ ty, (Instr.next (.pointer (some ⟨bm + 1, 0, none⟩)) false ty).run Tryz.prog (v1.alloc (.mapIter (some bm) 8 seen 8)) = .ok (.tuple #[.bool true, .int .i64 (senNo i), .iface 342 (.pointer (some (A i)))]) (v2.alloc (.mapIter (some bm) 8 (seen.push i) 8)) := fun _ => hrun
      have hsz2 : v2.heap.size = bm + 1 := by rw [hal2.1, hal.1, h5]
      have hb2 : v2.heap[bm]? = some (.map (senEs A 8) 8) := by rw [hal2.1]; exact hb1
      have hen0 := run_entry_map (P := Tryz.prog) v2 bm 8 seen (senEs A 8) 8 (senE A i) hb2 (mem_left he).1 (senEs_nodup A 8)
      rw [hsz2] at hen0
      have hen : (Instr.entry (.pointer (some ⟨bm + 1, 0, none⟩))).run Tryz.prog (v2.alloc (.mapIter (some bm) 8 (seen.push i) 8)) = .ok (.tuple #[.int .i64 (senNo i), .iface 342 (.pointer (some (A i)))]) (v2.alloc (.mapIter (some bm) 8 (seen.push i) 8)) := hen0
      clear hen0 hrun
      have hal3 : v2.Alike w5 := ⟨hal2.1.trans hal.1, hal2.2.1.trans hal.2.1, hal2.2.2.trans hal.2.2⟩
      have hK6 : Kept w5 (v2.alloc (.mapIter (some bm) 8 (seen.push i) 8)) := (Kept.alike hal3).trans (Kept.below ((Below.refl _ _).alloc (by simp) _))
      have hG6 := hG5.kept hK6
      have hr6 := hK6.blk hr5
      have d0 : (v2.alloc (.mapIter (some bm) 8 (seen.push i) 8)).cell? ⟨w.heap.size, 0, none⟩ = some (.int .i64 0) := by simp only [World.cell?, hr6]; rfl
      have d1 : (v2.alloc (.mapIter (some bm) 8 (seen.push i) 8)).cell? ⟨w.heap.size, 1, none⟩ = some (.int .i64 0) := by simp only [World.cell?, hr6]; rfl
      have d2 : (v2.alloc (.mapIter (some bm) 8 (seen.push i) 8)).cell? ⟨w.heap.size, 2, none⟩ = some (.string { data := #[] }) := by simp only [World.cell?, hr6]; rfl
      have d3 : (v2.alloc (.mapIter (some bm) 8 (seen.push i) 8)).cell? ⟨w.heap.size, 3, none⟩ = some (.int .i64 0) := by simp only [World.cell?, hr6]; rfl
      have d4 : (v2.alloc (.mapIter (some bm) 8 (seen.push i) 8)).cell? ⟨w.heap.size, 4, none⟩ = some (.int .i64 0) := by simp only [World.cell?, hr6]; rfl
      have fz : ∀ q, (v2.alloc (.mapIter (some bm) 8 (seen.push i) 8)).frozen? ⟨w.heap.size, q, none⟩ = false := fun q => by simp only [World.frozen?, hr6]; rfl
      by_cases hij : j = i
      · subst hij
        have hd : decide (j = j) = true := by simp
        go_wp2_with (go_at_call 40; refine (hG6.is j j hj hi).mono ?_; rintro e w' ⟨rfl, hww⟩; rw [hww, hd]; clear hww w')
        generalize v2.alloc (.mapIter (some bm) 8 (seen.push j) 8) = w6 at *
        change bodyPost _ _ _ _ _ (fltSet w6 w.heap.size (.int .i64 (senNo j)) (.int .i64 0) (.string { data := #[] }) (.int .i64 0) (.int .i64 0))
        have hr7 := fltSet_blk hr6 (.int .i64 (senNo j)) (.int .i64 0) (.string { data := #[] }) (.int .i64 0) (.int .i64 0)
        have hK7 : Kept w (fltSet w6 w.heap.size (.int .i64 (senNo j)) (.int .i64 0) (.string { data := #[] }) (.int .i64 0) (.int .i64 0)) := by
          have h1 := hKw.trans hK6
          have h2 := fltSet_below (Below.refl w.heap.size w6) (Nat.le_refl _) (.int .i64 (senNo j)) (.int .i64 0) (.string { data := #[] }) (.int .i64 0) (.int .i64 0)
          exact ⟨h2.os.trans h1.os, h2.output.trans h1.output, Nat.le_trans h1.size h2.size, fun q hq => (h2.block q hq).trans (h1.block q hq)⟩
        generalize fltSet w6 w.heap.size (.int .i64 (senNo j)) (.int .i64 0) (.string { data := #[] }) (.int .i64 0) (.int .i64 0) = w7 at *
        clear d0 d1 d2 d3 d4
        have d0 : w7.cell? ⟨w.heap.size, 0, none⟩ = some (.int .i64 (senNo j)) := by simp [World.cell?, hr7]
        have d1 : w7.cell? ⟨w.heap.size, 1, none⟩ = some (.int .i64 0) := by simp [World.cell?, hr7]
        have d2 : w7.cell? ⟨w.heap.size, 2, none⟩ = some (.string { data := #[] }) := by simp [World.cell?, hr7]
        have d3 : w7.cell? ⟨w.heap.size, 3, none⟩ = some (.int .i64 0) := by simp [World.cell?, hr7]
        have d4 : w7.cell? ⟨w.heap.size, 4, none⟩ = some (.int .i64 0) := by simp [World.cell?, hr7]
        exact bodyPost_ret (v := faultVal (senNo j) 0 { data := #[] }) (by simp [results, Tryz.results22, go_sem, faultVal, d0, d1, d2, d3, d4]) rfl ⟨rfl, hK7⟩
      · have hd : decide (j = i) = false := by simp [hij]
        go_wp2_with (go_at_call 40; refine (hG6.is j i hj hi).mono ?_; rintro e w' ⟨rfl, hww⟩; rw [hww, hd]; clear hww w')
        go_roundw
        case rel => exact ⟨v2, seen.push i, hal3, rfl, by rw [contains_push, hno]; simp [hij]⟩
        case measure =>
          rw [← hsz2, World.iterSeen_alloc, hsz2, ← hsz, World.iterSeen_alloc]
          exact left_shrinks (senEs A 8) seen (senE A i) he
end Go.Proofs.YtleenphlgbklmabGreatDoor

namespace Go.Proofs.YtleenphlgbklmabGreatDoor
open Go.RowKit

theorem PRd.c {w : World} {rb : Nat} {s : ByteArray} {kd i : Nat} {x : ByteArray} (h : PRd w rb s kd i x) : w.cell? ⟨rb, 0, none⟩ = some (.string s) ∧ w.cell? ⟨rb, 1, none⟩ = some (.int .i64 kd) ∧ w.cell? ⟨rb, 2, none⟩ = some (.int .i64 i) ∧ w.cell? ⟨rb, 3, none⟩ = some (.string x) := by
  have hh : w.heap[rb]? = some (.cells #[.string s, .int .i64 kd, .int .i64 i, .string x] 191 (0, 0)) := h
  refine ⟨?_, ?_, ?_, ?_⟩ <;> simp [World.cell?, hh]
/-- thrown: a fault at that place. -/
def ThrS (w : World) (loc : Nat) (e : Ending) (w' : World) : Prop := ∃ b, e = thrown (.iface 83 (.pointer (some ⟨b, 0, none⟩))) ∧ w'.heap[b]? = some (.cells #[.int .i64 loc] 94 (0, 0)) ∧ w.heap.size ≤ b ∧ Kept w w'

theorem pis_any (w : World) (rb : Nat) (s x t : ByteArray) (kd i : Nat) (h : PRd w rb s kd i x) :
    Calls Tryz.prog 80 #[.pointer (some ⟨rb, 0, none⟩), .string t] w fun e w' => e = .returned (.bool (x.toList == t.toList)) ∧ w' = w := by
  obtain ⟨c0, c1, c2, c3⟩ := h.c
  generalize hr : (x.toList == t.toList) = r
  go_enter Tryz.func80, Tryz.ntmps80
  go_wp2
  go_ret
  exact ⟨rfl, rfl⟩
theorem prr_any (w : World) (rb : Nat) (s x : ByteArray) (kd i : Nat) (h : PRd w rb s kd i x) :
    Calls Tryz.prog 81 #[.pointer (some ⟨rb, 0, none⟩)] w fun e w' => ThrS w i e w' := by
  obtain ⟨c0, c1, c2, c3⟩ := h.c
  clear h
  go_enter Tryz.func81, Tryz.ntmps81
  go_wp2_with (go_at_call 54; refine Calls.mono (prefuse_syn _ _) ?_; rintro e w' ⟨he, hww⟩; rw [hww, he]; clear hww he w' e)
  exact ⟨rfl, _, rfl, heap_alloc_new _ _, Nat.le_refl _, Kept.below ((Below.refl _ _).alloc (by simp) _)⟩
theorem pexpend_any (w : World) (rb : Nat) (s x : ByteArray) (kd i : Nat) (h : PRd w rb s kd i x) (hk : kd = 0) :
    Calls Tryz.prog 52 #[.pointer (some ⟨rb, 0, none⟩)] w fun e w' => e = .returned (.tuple #[]) ∧ w' = w := by
  obtain ⟨c0, c1, c2, c3⟩ := h.c
  subst hk
  clear h
  go_enter Tryz.func52, Tryz.ntmps52
  go_wp2
  go_end0
  exact ⟨rfl, rfl⟩
theorem pexpend_bad (w : World) (rb : Nat) (s x : ByteArray) (kd i : Nat) (h : PRd w rb s kd i x) (hk : kd ≠ 0) :
    Calls Tryz.prog 52 #[.pointer (some ⟨rb, 0, none⟩)] w fun e w' => ThrS w i e w' := by
  have HR : Hid _ := prr_any w rb s x kd i h
  obtain ⟨c0, c1, c2, c3⟩ := h.c
  have hz : ((kd : Int) == 0) = false := by simp; omega
  clear h
  go_enter Tryz.func52, Tryz.ntmps52
  go_wp2_with (go_at_call 81; refine Calls.mono HR.out ?_; rintro e w' ⟨b, he, hb1, hb2, hB⟩; rw [he]; clear he e)
  exact ⟨rfl, b, rfl, hb1, hb2, hB⟩
theorem pexpect_bad (w : World) (rb : Nat) (s x t : ByteArray) (kd i : Nat) (h : PRd w rb s kd i x) (hk : (x.toList == t.toList) = false) :
    Calls Tryz.prog 148 #[.pointer (some ⟨rb, 0, none⟩), .string t] w fun e w' => ThrS w i e w' := by
  have HR : Hid _ := prr_any w rb s x kd i h
  have HI : Hid _ := pis_any w rb s x t kd i h
  rw [hk] at HI
  clear h hk
  go_enter Tryz.func148, Tryz.ntmps148
  go_wp2_with (first | (go_at_call 80; refine Calls.mono HI.out ?_; rintro e w' ⟨rfl, hww⟩; rw [hww]; clear hww w') | (go_at_call 81; refine Calls.mono HR.out ?_; rintro e w' ⟨b, he, hb1, hb2, hB⟩; rw [he]; clear he e))
  exact ⟨rfl, b, rfl, hb1, hb2, hB⟩
theorem pexpect_some (w : World) (rb : Nat) (s x t : ByteArray) (kd i : Nat) (h : PRd w rb s kd i x) (hk : (x.toList == t.toList) = true) (hs : s.size ≤ 300) (hi : i + x.size ≤ s.size) (kd' : Nat) (y : ByteArray) (k' : Nat) (hT : pTok s (run blI s (i + x.size)) = some (kd', y, k')) :
    Calls Tryz.prog 148 #[.pointer (some ⟨rb, 0, none⟩), .string t] w fun e w' => e = .returned (.tuple #[]) ∧ Kp (· = rb) w w' ∧ PRd w' rb s kd' (run blI s (i + x.size)) y := by
  have HA : Hid _ := padv_some w rb s x kd i h hs hi kd' y k' hT
  have HI : Hid _ := pis_any w rb s x t kd i h
  rw [hk] at HI
  clear h hk hT
  go_enter Tryz.func148, Tryz.ntmps148
  go_wp2_with (first | (go_at_call 80; refine Calls.mono HI.out ?_; rintro e w' ⟨rfl, hww⟩; rw [hww]; clear hww w') | (go_at_call 78; refine Calls.mono HA.out ?_; rintro e w' ⟨rfl, hK, hP⟩))
  go_end0
  exact ⟨rfl, hK, hP⟩
theorem pexpect_none (w : World) (rb : Nat) (s x t : ByteArray) (kd i : Nat) (h : PRd w rb s kd i x) (hk : (x.toList == t.toList) = true) (hs : s.size ≤ 300) (hi : i + x.size ≤ s.size) (hT : pTok s (run blI s (i + x.size)) = none) :
    Calls Tryz.prog 148 #[.pointer (some ⟨rb, 0, none⟩), .string t] w fun e w' => ThrS w (run blI s (i + x.size)) e w' := by
  have HA : Hid _ := padv_none w rb s x kd i h hs hi hT
  have HI : Hid _ := pis_any w rb s x t kd i h
  rw [hk] at HI
  clear h hk hT
  generalize run blI s (i + x.size) = k0 at *
  go_enter Tryz.func148, Tryz.ntmps148
  go_wp2_with (first | (go_at_call 80; refine Calls.mono HI.out ?_; rintro e w' ⟨rfl, hww⟩; rw [hww]; clear hww w') | (go_at_call 78; refine Calls.mono HA.out ?_; rintro e w' ⟨b, he, hb1, hb2, hB⟩; rw [he]; clear he e))
  exact ⟨rfl, b, rfl, hb1, hb2, Kept.below hB⟩

set_option maxHeartbeats 1000000 in
theorem pnew_some (s : ByteArray) (w : World) (hs : s.size ≤ 300) (kd' : Nat) (y : ByteArray) (k' : Nat) (hT : pTok s (run blI s 0) = some (kd', y, k')) :
    Calls Tryz.prog 50 #[.string s] w fun e w' => e = .returned (.pointer (some ⟨w.heap.size, 0, none⟩)) ∧ Kept w w' ∧ PRd w' w.heap.size s kd' (run blI s 0) y := by
  have h : PRd (w.alloc (.cells #[.string s, .int .i64 ((0 : Nat) : Int), .int .i64 ((0 : Nat) : Int), .string { data := #[] }] 191)) w.heap.size s 0 0 { data := #[] } := heap_alloc_new _ _
  have HA : Hid _ := padv_some _ w.heap.size s { data := #[] } 0 0 h hs (by simp; show 0 ≤ _; omega) kd' y k' hT
  clear h hT
  go_enter Tryz.func50, Tryz.ntmps50
  go_wp2_with fail
  refine Calls.mono HA.out ?_
  rintro e w2 ⟨rfl, hK, hP⟩
  have hKK : Kept w w2 := ⟨hK.os, hK.output, by have := hK.size; simp at this; omega, fun q hq => by
    rw [hK.block q (by simp; omega) (by show ¬ q = _; omega)]
    exact Below.heap_alloc _ _ _ hq⟩
  clear hK HA
  go_wp2
  go_ret
  exact ⟨rfl, hKK, hP⟩
set_option maxHeartbeats 1000000 in
theorem pnew_none (s : ByteArray) (w : World) (hs : s.size ≤ 300) (hT : pTok s (run blI s 0) = none) :
    Calls Tryz.prog 50 #[.string s] w fun e w' => ThrS w (run blI s 0) e w' := by
  have h : PRd (w.alloc (.cells #[.string s, .int .i64 ((0 : Nat) : Int), .int .i64 ((0 : Nat) : Int), .string { data := #[] }] 191)) w.heap.size s 0 0 { data := #[] } := heap_alloc_new _ _
  have HA : Hid _ := padv_none _ w.heap.size s { data := #[] } 0 0 h hs (by simp; show 0 ≤ _; omega) hT
  clear h hT
  go_enter Tryz.func50, Tryz.ntmps50
  go_wp2_with fail
  refine Calls.mono HA.out ?_
  rintro e w2 ⟨b, he, hb1, hb2, hB⟩
  rw [he]
  clear he HA
  go_wp2
  refine ⟨rfl, b, rfl, hb1, by simp at hb2; omega, ?_⟩
  exact Kept.trans (Kept.below ((Below.refl _ _).alloc (by simp) _)) (Kept.below hB)
end Go.Proofs.YtleenphlgbklmabGreatDoor

namespace Go.Proofs.YtleenphlgbklmabGreatDoor
open Go.RowKit

/-- the tokens of a text stand one behind the other. -/
theorem toks_next (s : ByteArray) (kws : List ByteArray) (hk : ∀ w, w ∈ kws → w ≠ { data := #[110, 97, 109, 101] }) : ∀ n i, i ≤ s.size → ∀ k, k < (toksF s kws n i).length →
    (k = 0 → tkAt (toksF s kws n i) k = (tok1 s kws (run blI s i)).1) ∧
    ((tkAt (toksF s kws n i) k).loc + (tkAt (toksF s kws n i) k).s.size ≤ s.size) ∧
    (∃ j, j ≤ s.size ∧ tkAt (toksF s kws n i) k = (tok1 s kws j).1) ∧
    (k + 1 < (toksF s kws n i).length → tkAt (toksF s kws n i) (k + 1) = (tok1 s kws (run blI s ((tkAt (toksF s kws n i) k).loc + (tkAt (toksF s kws n i) k).s.size))).1)
  | 0, i, hi, k, hk0 => by simp [toksF] at hk0
  | n + 1, i, hi, k, hk0 => by
    have hr := run_le blI s i hi
    have hbd := clsK_bd s (run blI s i) hr
    have hsz : (s.extract (run blI s i) (clsK s (run blI s i))).size = clsK s (run blI s i) - run blI s i := by simp [ByteArray.size_extract]; omega
    have hloc : (tok1 s kws (run blI s i)).1.loc = run blI s i := rfl
    have hts : (tok1 s kws (run blI s i)).1.s = s.extract (run blI s i) (clsK s (run blI s i)) := rfl
    have hend : (tok1 s kws (run blI s i)).1.loc + (tok1 s kws (run blI s i)).1.s.size = (tok1 s kws (run blI s i)).2 := by
      rw [hloc, hts, hsz]
      show _ = clsK s (run blI s i)
      omega
    have hle2 : (tok1 s kws (run blI s i)).2 ≤ s.size := hbd.2
    cases hl : lastT (tok1 s kws (run blI s i)).1
    · have e : toksF s kws (n + 1) i = (tok1 s kws (run blI s i)).1 :: toksF s kws n (tok1 s kws (run blI s i)).2 := by rw [toksF, hl]; rfl
      rw [e] at hk0 ⊢
      cases k with
      | zero =>
        rw [tkAt_zero]
        refine ⟨fun _ => rfl, by rw [hend]; exact hle2, ⟨_, hr, rfl⟩, ?_⟩
        intro h1
        rw [tkAt_succ, hend]
        have := (toks_next s kws hk n _ hle2 0 (by simpa using h1)).1 rfl
        exact this
      | succ k =>
        rw [tkAt_succ, tkAt_succ]
        obtain ⟨_, a2, a3, a4⟩ := toks_next s kws hk n _ hle2 k (by simpa using hk0)
        exact ⟨fun q => by omega, a2, a3, fun h1 => a4 (by simpa using h1)⟩
    · have e : toksF s kws (n + 1) i = [(tok1 s kws (run blI s i)).1] := by rw [toksF, hl]; rfl
      rw [e] at hk0 ⊢
      have : k = 0 := by simpa using hk0
      subst this
      rw [tkAt_zero]
      exact ⟨fun _ => rfl, by rw [hend]; exact hle2, ⟨_, hr, rfl⟩, fun h1 => by simp at h1⟩

/-- keywords as they ought to be. -/
structure KwOk (kws : List ByteArray) : Prop where
  ne : ∀ w, w ∈ kws → w ≠ { data := #[110, 97, 109, 101] } ∧ w ≠ { data := #[110, 111, 110, 101] } ∧ w ≠ { data := #[101, 110, 100] } ∧ w ≠ { data := #[110, 117, 109] }
  low : ∀ w, w ∈ kws → lowI (chr w 0) = true
theorem kwIn_mem {kws : List ByteArray} {x : ByteArray} (h : kwIn kws x = true) : x ∈ kws := by
  unfold kwIn at h
  rw [List.any_eq_true] at h
  obtain ⟨w, hw, e⟩ := h
  rw [(sameS_iff x w).1 e]
  exact hw
theorem ne_of_list {a b : ByteArray} (h : a.data.toList ≠ b.data.toList) : a ≠ b := fun e => h (by rw [e])

section
variable {s : ByteArray} {kws : List ByteArray} (hK : KwOk kws) {L : List Tk} (hL : L = toksF s kws (s.size + 1) 0)
include hK hL
theorem tk_link (k : Nat) (h : k < L.length) : (tkAt L k).loc + (tkAt L k).s.size ≤ s.size ∧ Link s kws (tkAt L k).loc (tkAt L k) ((tkAt L k).loc + (tkAt L k).s.size) := by
  have hk : ∀ w, w ∈ kws → w ≠ { data := #[110, 97, 109, 101] } := fun w hw => (hK.ne w hw).1
  subst hL
  obtain ⟨_, a2, ⟨j, hj, e⟩, _⟩ := toks_next s kws hk (s.size + 1) 0 (Nat.zero_le _) k h
  have l := tok_link s kws hk j hj
  have hbd := clsK_bd s j hj
  have e1 : (tok1 s kws j).2 = (tok1 s kws j).1.loc + (tok1 s kws j).1.s.size := by
    show clsK s j = j + (s.extract j (clsK s j)).size
    simp [ByteArray.size_extract]
    omega
  refine ⟨a2, ?_⟩
  rw [e]
  rw [e1] at l
  exact l
theorem tk_tok (k : Nat) (h : k < L.length) (hn : (tkAt L k).is ≠ { data := #[110, 111, 110, 101] }) : ∃ kd, pTok s (tkAt L k).loc = some (kd, (tkAt L k).s, (tkAt L k).loc + (tkAt L k).s.size) := by
  have l := (tk_link hK hL k h).2
  cases l with
  | fin a b c d e =>
    refine ⟨0, ?_⟩
    rw [← e, c]
    exact d
  | bad a b => exact absurd a hn
  | word a b c d => exact ⟨1, c⟩
  | num a b c d e => exact ⟨2, d⟩
  | sign a b c d e f => exact ⟨3, d⟩
theorem tk_none (k : Nat) (h : k < L.length) (hn : (tkAt L k).is = { data := #[110, 111, 110, 101] }) : pTok s (tkAt L k).loc = none := by
  have l := (tk_link hK hL k h).2
  cases l with
  | fin a b c d e => rw [hn] at b; exact absurd b (ne_of_list (by decide))
  | bad a b => exact b
  | word a b c d =>
    exfalso
    rw [hn] at d
    split at d
    · rename_i q
      exact (hK.ne _ (kwIn_mem q)).2.1 d.symm
    · exact absurd d (ne_of_list (by decide))
  | num a b c d e => rw [hn] at e; exact absurd e (ne_of_list (by decide))
  | sign a b c d e f =>
    exfalso
    rw [hn] at e
    rcases f with f | ⟨h1, f, _⟩
    · rw [f] at e; exact absurd e (ne_of_list (by decide))
    · rw [f] at e
      have e := congrArg (fun x => x.size) e
      have e : (4 : Nat) = 1 := e
      omega
end

def isSgn (q : ByteArray) : Prop := q = { data := #[45, 62] } ∨ ∃ c : UInt8, q = ⟨#[c]⟩ ∧ isSign (c.toNat : Int) = true
theorem chr0_extract (s : ByteArray) (i k : Nat) (h : i < k) (hk : k ≤ s.size) : chr (s.extract i k) 0 = chr s i := by
  have h2 : 0 < (s.extract i k).size := by simp [ByteArray.size_extract]; omega
  unfold chr
  rw [dif_pos h2, dif_pos (by omega)]
  simp [ByteArray.getElem_extract]
theorem isSgn_chr {q : ByteArray} (h : isSgn q) : lowI (chr q 0) = false ∧ figI (chr q 0) = false := by
  rcases h with rfl | ⟨c, rfl, hc⟩
  · decide
  · have e : chr (⟨#[c]⟩ : ByteArray) 0 = (c.toNat : Int) := rfl
    rw [e]
    simp only [isSign, Bool.or_eq_true, beq_iff_eq] at hc
    simp only [lowI, figI]
    constructor
    · simp; omega
    · simp; omega
/-- a keyword or a sign is told by a token's text just as by its kind. -/
theorem is_text {s : ByteArray} {kws : List ByteArray} (hK : KwOk kws) {i : Nat} {t : Tk} {k : Nat} (l : Link s kws i t k) (hn : t.is ≠ { data := #[110, 111, 110, 101] }) (hk : k ≤ s.size) (q : ByteArray) (hq : q ∈ kws ∨ isSgn q) : (t.s.data.toList == q.data.toList) = (t.is.data.toList == q.data.toList) := by
  have hqne : q ≠ { data := #[110, 97, 109, 101] } ∧ q ≠ { data := #[101, 110, 100] } ∧ q ≠ { data := #[110, 117, 109] } ∧ q ≠ { data := #[] } := by
    rcases hq with hq | hq
    · have := hK.ne q hq
      refine ⟨this.1, this.2.2.1, this.2.2.2, fun e => ?_⟩
      have h2 := hK.low q hq
      rw [e] at h2
      exact absurd h2 (by decide)
    · rcases hq with rfl | ⟨c, rfl, _⟩
      · exact ⟨ne_of_list (by decide), ne_of_list (by decide), ne_of_list (by decide), ne_of_list (by decide)⟩
      · have hz : ∀ w : ByteArray, w.size ≠ 1 → (⟨#[c]⟩ : ByteArray) ≠ w := fun w hw e => hw (by rw [← e]; rfl)
        exact ⟨hz _ (by decide), hz _ (by decide), hz _ (by decide), hz _ (by decide)⟩
  have fa : ∀ a b : ByteArray, a ≠ b → (a.data.toList == b.data.toList) = false := fun a b h => by
    rw [Bool.eq_false_iff]
    intro e
    exact h ((sameS_iff a b).1 e)
  cases l with
  | fin a b c d e => rw [b, c, fa _ _ (Ne.symm hqne.2.2.2), fa _ _ (Ne.symm hqne.2.1)]
  | bad a b => exact absurd a hn
  | word a b c d =>
    by_cases hw : kwIn kws t.s = true
    · rw [if_pos hw] at d
      rw [d]
    · rw [if_neg hw] at d
      rw [d, fa _ _ (Ne.symm hqne.1)]
      refine fa _ _ (fun e => ?_)
      rcases hq with hq | hq
      · refine hw ?_
        unfold kwIn
        rw [List.any_eq_true]
        exact ⟨q, hq, (sameS_iff _ _).2 e⟩
      · have h1 := (isSgn_chr hq).1
        rw [← e] at h1
        unfold pTok at c
        rw [if_pos a, if_pos b] at c
        split at c
        · simp only [Option.some.injEq, Prod.mk.injEq] at c
          obtain ⟨_, c2, c3⟩ := c
          rw [← c2, chr0_extract s i _ (run_gt lfI s i a (by simp [lfI, b])) (run_le lfI s i (by omega)), b] at h1
          cases h1
        · cases c
  | num a b c d e =>
    rw [e, fa _ _ (Ne.symm hqne.2.2.1)]
    refine fa _ _ (fun e2 => ?_)
    unfold pTok at d
    rw [if_pos a, if_neg (by simp [b]), if_pos c] at d
    split at d
    · simp only [Option.some.injEq, Prod.mk.injEq] at d
      obtain ⟨_, c2, c3⟩ := d
      have h0 : chr t.s 0 = chr s i := by rw [← c2]; exact chr0_extract s i _ (run_gt figI s i a c) (run_le figI s i (by omega))
      rw [e2] at h0
      rcases hq with hq | hq
      · have h1 := hK.low q hq
        rw [h0, b] at h1
        cases h1
      · have h1 := (isSgn_chr hq).2
        rw [h0, c] at h1
        cases h1
    · cases d
  | sign a b c d e f => rw [e]
end Go.Proofs.YtleenphlgbklmabGreatDoor

namespace Go.Proofs.YtleenphlgbklmabGreatDoor
open Go.RowKit

/-- the program's reader stands at the k-th token. -/
structure PAt (w : World) (rb : Nat) (s : ByteArray) (L : List Tk) (k : Nat) : Prop where
  ex : ∃ kd, PRd w rb s kd (tkAt L k).loc (tkAt L k).s ∧ pTok s (tkAt L k).loc = some (kd, (tkAt L k).s, (tkAt L k).loc + (tkAt L k).s.size)
  lt : k < L.length
  nn : (tkAt L k).is ≠ { data := #[110, 111, 110, 101] }
/-- the text and its tokens. -/
structure PEnv (s : ByteArray) (kws : List ByteArray) (L : List Tk) : Prop where
  sz : s.size ≤ 300
  kw : KwOk kws
  eq : L = toksF s kws (s.size + 1) 0
theorem PEnv.good {s : ByteArray} {kws : List ByteArray} {L : List Tk} (h : PEnv s kws L) : Good L := by rw [h.eq]; exact toks_good s kws

section
variable {s : ByteArray} {kws : List ByteArray} {L : List Tk} (hE : PEnv s kws L) {w : World} {rb k : Nat}
include hE
theorem at_is (h : PAt w rb s L k) (q : ByteArray) (hq : q ∈ kws ∨ isSgn q) : Calls Tryz.prog 80 #[.pointer (some ⟨rb, 0, none⟩), .string q] w fun e w' => e = .returned (.bool (isM L q k (-1))) ∧ w' = w := by
  obtain ⟨kd, hr, _⟩ := h.ex
  have l := tk_link hE.kw hE.eq k h.lt
  have e := is_text hE.kw l.2 h.nn l.1 q hq
  have := pis_any w rb s (tkAt L k).s q kd _ hr
  have e2 : isM L q k (-1) = ((tkAt L k).s.toList == q.toList) := by
    simp only [isM]
    rw [← e, ByteArray.toList_eq, ByteArray.toList_eq]
    rfl
  rw [e2]
  exact this
theorem at_next (h : PAt w rb s L k) (h1 : k + 1 < L.length) : run blI s ((tkAt L k).loc + (tkAt L k).s.size) = (tkAt L (k + 1)).loc := by
  have hk : ∀ w, w ∈ kws → w ≠ { data := #[110, 97, 109, 101] } := fun w hw => (hE.kw.ne w hw).1
  have hL := hE.eq
  subst hL
  obtain ⟨_, _, _, a4⟩ := toks_next s kws hk (s.size + 1) 0 (Nat.zero_le _) k h.lt
  rw [a4 h1]
  rfl
theorem at_adv (h : PAt w rb s L k) (h1 : k + 1 < L.length) (hn : (tkAt L (k + 1)).is ≠ { data := #[110, 111, 110, 101] }) : Calls Tryz.prog 78 #[.pointer (some ⟨rb, 0, none⟩)] w fun e w' => e = .returned (.tuple #[]) ∧ Kp (· = rb) w w' ∧ PAt w' rb s L (k + 1) := by
  obtain ⟨kd, hr, _⟩ := h.ex
  have l := tk_link hE.kw hE.eq k h.lt
  obtain ⟨kd', ht⟩ := tk_tok hE.kw hE.eq (k + 1) h1 hn
  have nx := at_next hE h h1
  have := padv_some w rb s (tkAt L k).s kd _ hr hE.sz l.1 kd' (tkAt L (k + 1)).s _ (by rw [nx]; exact ht)
  rw [nx] at this
  refine this.mono ?_
  rintro e w' ⟨rfl, hK, hP⟩
  exact ⟨rfl, hK, ⟨kd', hP, ht⟩, h1, hn⟩
theorem at_advN (h : PAt w rb s L k) (h1 : k + 1 < L.length) (hn : (tkAt L (k + 1)).is = { data := #[110, 111, 110, 101] }) : Calls Tryz.prog 78 #[.pointer (some ⟨rb, 0, none⟩)] w fun e w' => ThrS w (tkAt L (k + 1)).loc e w' := by
  obtain ⟨kd, hr, _⟩ := h.ex
  have l := tk_link hE.kw hE.eq k h.lt
  have ht := tk_none hE.kw hE.eq (k + 1) h1 hn
  have nx := at_next hE h h1
  have := padv_none w rb s (tkAt L k).s kd _ hr hE.sz l.1 (by rw [nx]; exact ht)
  rw [nx] at this
  refine this.mono ?_
  rintro e w' ⟨b, he, h2, h3, hB⟩
  exact ⟨b, he, h2, h3, Kept.below hB⟩
theorem at_text (h : PAt w rb s L k) (q : ByteArray) (hq : q ∈ kws ∨ isSgn q) : ((tkAt L k).s.toList == q.toList) = isM L q k (-1) := by
  have l := tk_link hE.kw hE.eq k h.lt
  have e := is_text hE.kw l.2 h.nn l.1 q hq
  simp only [isM]
  rw [← e, ByteArray.toList_eq, ByteArray.toList_eq]
  rfl
theorem at_exp (h : PAt w rb s L k) (q : ByteArray) (hq : q ∈ kws ∨ isSgn q) (h1 : k + 1 < L.length) (hM : isM L q k (-1) = true) (hn : (tkAt L (k + 1)).is ≠ { data := #[110, 111, 110, 101] }) : Calls Tryz.prog 148 #[.pointer (some ⟨rb, 0, none⟩), .string q] w fun e w' => e = .returned (.tuple #[]) ∧ Kp (· = rb) w w' ∧ PAt w' rb s L (k + 1) := by
  obtain ⟨kd, hr, _⟩ := h.ex
  have l := tk_link hE.kw hE.eq k h.lt
  obtain ⟨kd', ht⟩ := tk_tok hE.kw hE.eq (k + 1) h1 hn
  have nx := at_next hE h h1
  have := pexpect_some w rb s (tkAt L k).s q kd _ hr (by rw [at_text hE h q hq]; exact hM) hE.sz l.1 kd' (tkAt L (k + 1)).s _ (by rw [nx]; exact ht)
  rw [nx] at this
  refine this.mono ?_
  rintro e w' ⟨rfl, hK, hP⟩
  exact ⟨rfl, hK, ⟨kd', hP, ht⟩, h1, hn⟩
theorem at_expN (h : PAt w rb s L k) (q : ByteArray) (hq : q ∈ kws ∨ isSgn q) (h1 : k + 1 < L.length) (hM : isM L q k (-1) = true) (hn : (tkAt L (k + 1)).is = { data := #[110, 111, 110, 101] }) : Calls Tryz.prog 148 #[.pointer (some ⟨rb, 0, none⟩), .string q] w fun e w' => ThrS w (tkAt L (k + 1)).loc e w' := by
  obtain ⟨kd, hr, _⟩ := h.ex
  have l := tk_link hE.kw hE.eq k h.lt
  have ht := tk_none hE.kw hE.eq (k + 1) h1 hn
  have nx := at_next hE h h1
  have := pexpect_none w rb s (tkAt L k).s q kd _ hr (by rw [at_text hE h q hq]; exact hM) hE.sz l.1 (by rw [nx]; exact ht)
  rw [nx] at this
  exact this
theorem at_expB (h : PAt w rb s L k) (q : ByteArray) (hq : q ∈ kws ∨ isSgn q) (hM : isM L q k (-1) = false) : Calls Tryz.prog 148 #[.pointer (some ⟨rb, 0, none⟩), .string q] w fun e w' => ThrS w (tkAt L k).loc e w' := by
  obtain ⟨kd, hr, _⟩ := h.ex
  exact pexpect_bad w rb s (tkAt L k).s q kd _ hr (by rw [at_text hE h q hq]; exact hM)
end

theorem isM_none {L : List Tk} {q : ByteArray} {k : Nat} {bad : Int} (hn : (tkAt L k).is = { data := #[110, 111, 110, 101] }) (hq : q.data.toList ≠ ({ data := #[110, 111, 110, 101] } : ByteArray).data.toList) : isM L q k bad = false := by
  simp only [isM, hn]
  have : (({ data := #[110, 111, 110, 101] } : ByteArray).data.toList == q.data.toList) = false := by
    rw [Bool.eq_false_iff]
    intro e
    exact hq (beq_iff_eq.1 e).symm
  rw [this]
  simp
/-- a fault once told stays. -/
theorem tread_bad (l : List Tk) : ∀ n, (∀ names k bad t names' k' bad', arrowM l n names k bad = some (t, names', k', bad') → (0 ≤ bad → bad' = bad) ∧ (bad' < 0 → bad' = bad)) ∧
    (∀ names k bad t names' k' bad', oneM l n names k bad = some (t, names', k', bad') → (0 ≤ bad → bad' = bad) ∧ (bad' < 0 → bad' = bad)) := by
  have nb : ∀ s k bad, (0 ≤ bad → needB l s k bad = bad) ∧ (needB l s k bad < 0 → needB l s k bad = bad) := fun s k bad => by
    refine ⟨fun h => needB_geT h, ?_⟩
    unfold needB
    split
    · intro h; omega
    · intro _; rfl
  intro n
  induction n with
  | zero => exact ⟨fun _ _ _ _ _ _ _ h => by simp [arrowM] at h, fun _ _ _ _ _ _ _ h => by simp [oneM] at h⟩
  | succ n ih =>
    refine ⟨?_, ?_⟩
    · intro names k bad t names' k' bad' h
      simp only [arrowM] at h
      obtain ⟨⟨x, n1, k1, b1⟩, h1, h2⟩ := Option.bind_eq_some_iff.1 h
      have g1 := ih.2 _ _ _ _ _ _ _ h1
      simp only at h2
      split at h2
      · obtain ⟨⟨y, n2, k2, b2⟩, h3, h4⟩ := Option.bind_eq_some_iff.1 h2
        have g2 := ih.1 _ _ _ _ _ _ _ h3
        simp only [Option.some.injEq, Prod.mk.injEq] at h4
        obtain ⟨_, _, _, rfl⟩ := h4
        exact ⟨fun q => by have := g1.1 q; have := g2.1 (by omega); omega, fun q => by have := g2.2 q; have := g1.2 (by omega); omega⟩
      · simp only [Option.some.injEq, Prod.mk.injEq] at h2
        obtain ⟨_, _, _, rfl⟩ := h2
        exact g1
    · intro names k bad t names' k' bad' h
      simp only [oneM] at h
      split at h
      · simp only [Option.some.injEq, Prod.mk.injEq] at h
        obtain ⟨_, _, _, rfl⟩ := h
        exact ⟨fun _ => rfl, fun _ => rfl⟩
      · split at h
        · simp only [Option.some.injEq, Prod.mk.injEq] at h
          obtain ⟨_, _, _, rfl⟩ := h
          exact ⟨fun _ => rfl, fun _ => rfl⟩
        · split at h
          · obtain ⟨⟨x, n1, k1, b1⟩, h1, h2⟩ := Option.bind_eq_some_iff.1 h
            have g1 := ih.1 _ _ _ _ _ _ _ h1
            simp only [Option.some.injEq, Prod.mk.injEq] at h2
            obtain ⟨_, _, _, rfl⟩ := h2
            have g2 := nb { data := #[93] } k1 b1
            exact ⟨fun q => by have := g1.1 q; have := g2.1 (by omega); omega, fun q => by have := g2.2 q; have := g1.2 (by omega); omega⟩
          · split at h
            · obtain ⟨⟨x, n1, k1, b1⟩, h1, h2⟩ := Option.bind_eq_some_iff.1 h
              have g1 := ih.1 _ _ _ _ _ _ _ h1
              simp only at h2
              split at h2
              · obtain ⟨⟨y, n2, k2, b2⟩, h3, h4⟩ := Option.bind_eq_some_iff.1 h2
                have g3 := ih.1 _ _ _ _ _ _ _ h3
                simp only [Option.some.injEq, Prod.mk.injEq] at h4
                obtain ⟨_, _, _, rfl⟩ := h4
                have g2 := nb { data := #[41] } k2 b2
                exact ⟨fun q => by have := g1.1 q; have := g3.1 (by omega); have := g2.1 (by omega); omega, fun q => by have := g2.2 q; have := g3.2 (by omega); have := g1.2 (by omega); omega⟩
              · simp only [Option.some.injEq, Prod.mk.injEq] at h2
                obtain ⟨_, _, _, rfl⟩ := h2
                have g2 := nb { data := #[41] } k1 b1
                exact ⟨fun q => by have := g1.1 q; have := g2.1 (by omega); omega, fun q => by have := g2.2 q; have := g1.2 (by omega); omega⟩
            · simp only [Option.some.injEq, Prod.mk.injEq] at h
              obtain ⟨_, _, _, rfl⟩ := h
              exact nb { data := #[110, 97, 109, 101] } k bad
/-- at no token the reader of types tells that place. -/
theorem tread_none (l : List Tk) (n : Nat) (names : List ByteArray) (k : Nat) (bad : Int) (hb : bad < 0) (hn : (tkAt l k).is = { data := #[110, 111, 110, 101] }) :
    (∀ t names' k' bad', oneM l n names k bad = some (t, names', k', bad') → bad' = (tkAt l k).loc) ∧ (∀ t names' k' bad', arrowM l n names k bad = some (t, names', k', bad') → bad' = (tkAt l k).loc) := by
  have one : ∀ n t names' k' bad', oneM l n names k bad = some (t, names', k', bad') → bad' = (tkAt l k).loc := by
    intro n t names' k' bad' h
    cases n with
    | zero => simp [oneM] at h
    | succ n =>
      simp only [oneM, isM_none hn (show ({ data := #[105, 110, 116] } : ByteArray).data.toList ≠ ({ data := #[110, 111, 110, 101] } : ByteArray).data.toList by decide), isM_none hn (show ({ data := #[98, 111, 111, 108] } : ByteArray).data.toList ≠ ({ data := #[110, 111, 110, 101] } : ByteArray).data.toList by decide), isM_none hn (show ({ data := #[91] } : ByteArray).data.toList ≠ ({ data := #[110, 111, 110, 101] } : ByteArray).data.toList by decide), isM_none hn (show ({ data := #[40] } : ByteArray).data.toList ≠ ({ data := #[110, 111, 110, 101] } : ByteArray).data.toList by decide), Bool.false_eq_true, if_false, Option.some.injEq, Prod.mk.injEq] at h
      obtain ⟨_, _, _, rfl⟩ := h
      unfold needB
      rw [isM_none hn (by decide), if_pos (by simp; omega)]
  refine ⟨one n, ?_⟩
  intro t names' k' bad' h
  cases n with
  | zero => simp [arrowM] at h
  | succ n =>
    simp only [arrowM] at h
    obtain ⟨⟨x, n1, k1, b1⟩, h1, h2⟩ := Option.bind_eq_some_iff.1 h
    have e := one n _ _ _ _ h1
    simp only at h2
    rw [isM_geT (by omega)] at h2
    simp only [Bool.false_eq_true, if_false, Option.some.injEq, Prod.mk.injEq] at h2
    obtain ⟨_, _, _, rfl⟩ := h2
    exact e
end Go.Proofs.YtleenphlgbklmabGreatDoor

namespace Go.Proofs.YtleenphlgbklmabGreatDoor
open Go.RowKit

/-- all that lay there is as it was, but for the blocks of S (the tape may have been asked). -/
structure Kq (S : Nat → Prop) (w w' : World) : Prop where
  os : w'.os = w.os
  output : w'.output = w.output
  size : w.heap.size ≤ w'.heap.size
  block : ∀ k, k < w.heap.size → ¬ S k → w'.heap[k]? = w.heap[k]?
theorem Kq.trans {S : Nat → Prop} {a b c : World} (h : Kq S a b) (k : Kq S b c) : Kq S a c := ⟨k.os.trans h.os, k.output.trans h.output, Nat.le_trans h.size k.size, fun q hq hs => (k.block q (Nat.lt_of_lt_of_le hq h.size) hs).trans (h.block q hq hs)⟩
theorem Kq.of_kp {S T : Nat → Prop} {a b : World} (h : Kp T a b) (hT : ∀ q, T q → S q) : Kq S a b := ⟨h.os, h.output, h.size, fun q hq hs => h.block q hq (fun x => hs (hT q x))⟩
theorem Kq.of_kept {S : Nat → Prop} {a b : World} (h : Kept a b) : Kq S a b := ⟨h.os, h.output, h.size, fun q hq _ => h.block q hq⟩
theorem PAt.kept {w w' : World} {rb : Nat} {s : ByteArray} {L : List Tk} {k : Nat} (h : PAt w rb s L k) (hk : Kept w w') : PAt w' rb s L k := by
  obtain ⟨kd, h1, h2⟩ := h.ex
  exact ⟨⟨kd, hk.blk h1, h2⟩, h.lt, h.nn⟩
theorem Kept.alloc (w : World) (o : Obj) : Kept w (w.alloc o) := Kept.below ((Below.refl _ _).alloc (by simp) _)

end Go.Proofs.YtleenphlgbklmabGreatDoor

namespace Go.Proofs.YtleenphlgbklmabGreatDoor
open Go.RowKit

def vEnt (names : List ByteArray) (vb : List Nat) (j : Nat) : MapEntry := { key := .string (names.getD j { data := #[] }), val := .pointer (some ⟨vb.getD j 0, 0, none⟩), born := j }
def vEs (names : List ByteArray) (vb : List Nat) : Array MapEntry := ((List.range names.length).map (vEnt names vb)).toArray
/-- the map of variables: by names, in their order, blocks of their own. -/
structure VM (w : World) (mb : Nat) (names : List ByteArray) (vb : List Nat) : Prop where
  len : vb.length = names.length
  mp : w.heap[mb]? = some (.map (vEs names vb) names.length)
  vr : ∀ j, j < names.length → w.heap[vb.getD j 0]? = some (.cells #[.nilIface, .string (names.getD j { data := #[] }), .bool false] 148 (0, 0))
theorem vEs_snoc (names : List ByteArray) (vb : List Nat) (h : vb.length = names.length) (nm : ByteArray) (b : Nat) : (vEs names vb).push { key := .string nm, val := .pointer (some ⟨b, 0, none⟩), born := names.length } = vEs (names ++ [nm]) (vb ++ [b]) := by
  unfold vEs
  rw [List.length_append, List.length_singleton, List.range_succ, List.map_append]
  have e1 : (List.range names.length).map (vEnt names vb) = (List.range names.length).map (vEnt (names ++ [nm]) (vb ++ [b])) := by
    apply List.map_congr_left
    intro j hj
    have hj : j < names.length := List.mem_range.1 hj
    simp [vEnt, List.getD, List.getElem?_append_left hj, List.getElem?_append_left (h ▸ hj : j < vb.length)]
  have e2 : vEnt (names ++ [nm]) (vb ++ [b]) names.length = { key := .string nm, val := .pointer (some ⟨b, 0, none⟩), born := names.length } := by
    have : names.length = vb.length := h.symm
    simp [vEnt, List.getD]
    rw [this]
    simp
  rw [e1]
  simp [e2]
theorem vEs_get (names : List ByteArray) (vb : List Nat) (j : Nat) : (vEs names vb).toList[j]? = if j < names.length then some (vEnt names vb j) else none := by
  simp only [vEs]
  by_cases h : j < names.length
  · simp [h]
  · simp [h]
theorem find_vars (names : List ByteArray) (vb : List Nat) (nm : ByteArray) (hn : names.Nodup) : Instr.findNow .string (.string nm) (vEs names vb).toList 0 = some ((names.findIdx? (fun x => sameS x nm)).map fun j => (j, .pointer (some ⟨vb.getD j 0, 0, none⟩))) := by
  have hk : MapKept.IsKey .string (.string nm) := by simp [MapKept.IsKey]
  have hall : ∀ x, x ∈ (vEs names vb).toList → MapKept.IsKey .string x.key := fun x hx => by
    simp only [vEs, List.mem_map] at hx
    obtain ⟨j, _, rfl⟩ := hx
    simp [vEnt, MapKept.IsKey]
  have gd : ∀ j (h : j < names.length), names.getD j { data := #[] } = names[j] := fun j h => by simp [List.getD, h]
  rcases MapKept.findNow_spec hk (vEs names vb).toList 0 hall with ⟨h1, h2⟩ | ⟨j, e, h1, h2, h3⟩
  · have : names.findIdx? (fun x => sameS x nm) = none := by
      rw [List.findIdx?_eq_none_iff]
      intro x hx
      obtain ⟨j, hj, rfl⟩ := List.getElem_of_mem hx
      rw [Bool.eq_false_iff]
      intro q
      have q := (sameS_iff _ _).1 q
      have hm : vEnt names vb j ∈ (vEs names vb).toList := by
        simp only [vEs, List.mem_map]
        exact ⟨j, by simpa using hj, rfl⟩
      refine h2 _ hm ?_
      simp only [vEnt]
      rw [gd j hj, q]
    rw [h1, this]
    rfl
  · rw [vEs_get] at h2
    by_cases hj : j < names.length
    · rw [if_pos hj] at h2
      obtain rfl := Option.some.inj h2
      have q : names[j] = nm := by
        simp only [vEnt] at h3
        rw [gd j hj] at h3
        injection h3
      have : names.findIdx? (fun x => sameS x nm) = some j := by
        rw [List.findIdx?_eq_some_iff_getElem]
        refine ⟨hj, (sameS_iff _ _).2 q, ?_⟩
        intro i hi z
        have z := (sameS_iff _ _).1 z
        exact (List.pairwise_iff_getElem.1 hn) i j (by omega) hj hi (by rw [z, q])
      rw [h1, this]
      simp [vEnt]
    · rw [if_neg hj] at h2
      cases h2

theorem run_look (w : World) (mb : Nat) (names : List ByteArray) (vb : List Nat) (nm : ByteArray) (h : VM w mb names vb) (hn : names.Nodup) :
    (Instr.lookup 114 (.map (some mb)) (.string nm) true).run Tryz.prog w = .ok (match names.findIdx? (fun x => sameS x nm) with | some j => .tuple #[.pointer (some ⟨vb.getD j 0, 0, none⟩), .bool true] | none => .tuple #[.pointer none, .bool false]) w := by
  have hf := find_vars names vb nm hn
  have hc : ∀ e, (Instr.checkKey e 10000 9 (.string nm)).run Tryz.prog w = .ok () w := fun e => MapKept.run_checkKey Tryz.underlying9 (by simp [MapKept.IsKey]) e 9999
  have hz : (zeroValue 124).run Tryz.prog w = .ok (.pointer none) w := by kernel_rfl
  simp only [Instr.lookup, Sem.run_bind, run_underlying Tryz.underlying114, MapKept.run_getObj_map h.mp, Result.andThen, Sem.run_pure, hc, MapKept.run_findKey Tryz.underlying9 hf]
  cases names.findIdx? (fun x => sameS x nm) with
  | none => simp [hz, Result.andThen]
  | some j => simp

theorem VM.kept {w w' : World} {mb : Nat} {names : List ByteArray} {vb : List Nat} (h : VM w mb names vb) (hk : Kept w w') : VM w' mb names vb := ⟨h.len, hk.blk h.mp, fun j hj => hk.blk (h.vr j hj)⟩
set_option maxRecDepth 20000 in
set_option maxHeartbeats 1000000 in
theorem pvar_old (w : World) (mb rb : Nat) (names : List ByteArray) (vb : List Nat) (nm : ByteArray) (h : VM w mb names vb) (hn : names.Nodup) (j : Nat) (hj : names.findIdx? (fun x => sameS x nm) = some j) :
    Calls Tryz.prog 121 #[.agg #[.pointer (some ⟨rb, 0, none⟩), .map (some mb)], .string nm] w fun e w' => e = .returned (.pointer (some ⟨vb.getD j 0, 0, none⟩)) ∧ Kept w w' := by
  have hK : Kept w (w.alloc (.cells #[.pointer (some ⟨rb, 0, none⟩), .map (some mb)] 116)) := Kept.below ((Below.refl _ _).alloc (by simp) _)
  have hl := run_look (w.alloc (.cells #[.pointer (some ⟨rb, 0, none⟩), .map (some mb)] 116)) mb names vb nm (h.kept hK) hn
  rw [hj] at hl
  simp only at hl
  clear h hj
  go_enter Tryz.func121, Tryz.ntmps121
  go_wp2
  go_ret
  exact ⟨rfl, hK⟩
theorem run_vput (w : World) (mb : Nat) (names : List ByteArray) (vb : List Nat) (nm : ByteArray) (b : Nat) (h : VM w mb names vb) (hn : names.Nodup) (hj : names.findIdx? (fun x => sameS x nm) = none) :
    (Instr.mapUpdate 114 (.map (some mb)) (.string nm) (.pointer (some ⟨b, 0, none⟩))).run Tryz.prog w = .ok () { w with heap := w.heap.setIfInBounds mb (.map (vEs (names ++ [nm]) (vb ++ [b])) (names.length + 1)) } := by
  have hf := find_vars names vb nm hn
  rw [hj] at hf
  have hf : Instr.findNow .string (.string nm) (vEs names vb).toList 0 = some none := hf
  have hc : (Instr.checkKey false 10000 9 (.string nm)).run Tryz.prog w = .ok () w := MapKept.run_checkKey Tryz.underlying9 (by simp [MapKept.IsKey]) false 9999
  rw [← vEs_snoc names vb h.len]
  simp [Instr.mapUpdate, run_underlying Tryz.underlying114, MapKept.run_getObj_map h.mp, hc, MapKept.run_findKey Tryz.underlying9 hf, MapKept.run_setObj_map _ h.mp, Result.andThen]
def mapSet (w : World) (mb : Nat) (o : Obj) : World := { w with heap := w.heap.setIfInBounds mb o }
theorem mapSet_other (w : World) (mb : Nat) (o : Obj) (k : Nat) (hk : k ≠ mb) : (mapSet w mb o).heap[k]? = w.heap[k]? := by
  simp only [mapSet]
  rw [Array.getElem?_setIfInBounds_ne (fun e => hk e.symm)]
theorem mapSet_same (w : World) (mb : Nat) (o : Obj) (hk : mb < w.heap.size) : (mapSet w mb o).heap[mb]? = some o := by
  simp only [mapSet]
  rw [Array.getElem?_setIfInBounds]
  simp [hk]
theorem mapSet_kp (w : World) (mb : Nat) (o : Obj) : Kp (· = mb) w (mapSet w mb o) := ⟨rfl, rfl, rfl, by simp [mapSet], fun k _ hn => mapSet_other w mb o k hn⟩
set_option maxRecDepth 20000 in
set_option maxHeartbeats 1000000 in
theorem pvar_new (w : World) (mb rb : Nat) (names : List ByteArray) (vb : List Nat) (nm : ByteArray) (h : VM w mb names vb) (hn : names.Nodup) (hj : names.findIdx? (fun x => sameS x nm) = none) :
    Calls Tryz.prog 121 #[.agg #[.pointer (some ⟨rb, 0, none⟩), .map (some mb)], .string nm] w fun e w' => ∃ b, e = .returned (.pointer (some ⟨b, 0, none⟩)) ∧ VM w' mb (names ++ [nm]) (vb ++ [b]) ∧ Kp (· = mb) w w' ∧ w.heap.size ≤ b := by
  have hK : Kept w (w.alloc (.cells #[.pointer (some ⟨rb, 0, none⟩), .map (some mb)] 116)) := Kept.below ((Below.refl _ _).alloc (by simp) _)
  have h1 := h.kept hK
  have hl := run_look (w.alloc (.cells #[.pointer (some ⟨rb, 0, none⟩), .map (some mb)] 116)) mb names vb nm h1 hn
  rw [hj] at hl
  simp only at hl
  have hK2 : Kept (w.alloc (.cells #[.pointer (some ⟨rb, 0, none⟩), .map (some mb)] 116)) ((w.alloc (.cells #[.pointer (some ⟨rb, 0, none⟩), .map (some mb)] 116)).alloc (.cells #[.nilIface, .string nm, .bool false] 148)) := Kept.below ((Below.refl _ _).alloc (by simp) _)
  have h2 := h1.kept hK2
  have hu := run_vput ((w.alloc (.cells #[.pointer (some ⟨rb, 0, none⟩), .map (some mb)] 116)).alloc (.cells #[.nilIface, .string nm, .bool false] 148)) mb names vb nm (w.heap.size + 1) h2 hn hj
  have hvb : ((w.alloc (.cells #[.pointer (some ⟨rb, 0, none⟩), .map (some mb)] 116)).alloc (.cells #[.nilIface, .string nm, .bool false] 148)).heap[w.heap.size + 1]? = some (.cells #[.nilIface, .string nm, .bool false] 148 (0, 0)) := by
    have := heap_alloc_new (w.alloc (.cells #[.pointer (some ⟨rb, 0, none⟩), .map (some mb)] 116)) (.cells #[.nilIface, .string nm, .bool false] 148)
    simpa using this
  have hkp : Kp (· = mb) w (mapSet ((w.alloc (.cells #[.pointer (some ⟨rb, 0, none⟩), .map (some mb)] 116)).alloc (.cells #[.nilIface, .string nm, .bool false] 148)) mb (.map (vEs (names ++ [nm]) (vb ++ [w.heap.size + 1])) (names.length + 1))) := (((Kp.refl _ w).alloc _).alloc _).trans (mapSet_kp _ _ _)
  have hmb : mb < w.heap.size := lt_of_block h.mp
  have hV : VM (mapSet ((w.alloc (.cells #[.pointer (some ⟨rb, 0, none⟩), .map (some mb)] 116)).alloc (.cells #[.nilIface, .string nm, .bool false] 148)) mb (.map (vEs (names ++ [nm]) (vb ++ [w.heap.size + 1])) (names.length + 1))) mb (names ++ [nm]) (vb ++ [w.heap.size + 1]) := by
    refine ⟨by simp [h.len], ?_, ?_⟩
    · rw [mapSet_same _ _ _ (lt_of_block h2.mp)]
      simp
    · intro q hq
      simp at hq
      by_cases e : q < names.length
      · have e1 : (vb ++ [w.heap.size + 1]).getD q 0 = vb.getD q 0 := by simp [List.getD, List.getElem?_append_left (h.len ▸ e : q < vb.length)]
        have e2 : (names ++ [nm]).getD q { data := #[] } = names.getD q { data := #[] } := by simp [List.getD, List.getElem?_append_left e]
        rw [e1, e2, mapSet_other _ _ _ _ (fun z => by have a := h2.vr q e; rw [z, h2.mp] at a; cases a)]
        exact h2.vr q e
      · have e0 : q = names.length := by omega
        subst e0
        have e1 : (vb ++ [w.heap.size + 1]).getD names.length 0 = w.heap.size + 1 := by rw [← h.len]; simp [List.getD]
        have e2 : (names ++ [nm]).getD names.length { data := #[] } = nm := by simp [List.getD]
        rw [e1, e2, mapSet_other _ _ _ _ (by omega)]
        exact hvb
  have HV : Hid _ := hV
  have HK : Hid _ := hkp
  have hu2 : (Instr.mapUpdate 114 (.map (some mb)) (.string nm) (.pointer (some ⟨w.heap.size + 1, 0, none⟩))).run Tryz.prog ((w.alloc (.cells #[.pointer (some ⟨rb, 0, none⟩), .map (some mb)] 116)).alloc (.cells #[.nilIface, .string nm, .bool false] 148)) = .ok () (mapSet ((w.alloc (.cells #[.pointer (some ⟨rb, 0, none⟩), .map (some mb)] 116)).alloc (.cells #[.nilIface, .string nm, .bool false] 148)) mb (.map (vEs (names ++ [nm]) (vb ++ [w.heap.size + 1])) (names.length + 1))) := hu
  clear h h1 h2 hj hu hV hkp hK hK2 hvb
  go_enter Tryz.func121, Tryz.ntmps121
  go_wp2
  go_ret
  exact ⟨_, rfl, HV.out, HK.out, by omega⟩
end Go.Proofs.YtleenphlgbklmabGreatDoor
