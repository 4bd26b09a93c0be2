import Derived.Test.YtleenphlgbklmaaGreatDoorTAsHit
import Derived.Test.YtleenphlgbklmaaGreatDoorTIsZ
import Derived.Test.YtleenphlgbklmaaGreatDoorTWTake
import Derived.Laws.IdiomRangeMap
import Derived.Maps.RangeWalk
set_option linter.unusedVariables false
set_option linter.unusedSimpArgs false
namespace Go.Proofs.YtleenphlgbklmaaGreatDoor
open Go.RowKit

/-- the sentinels and errors' own type, as the program's variables hold them. -/
structure Glb (A : Nat → Addr) (w : World) : Prop where
  blk : ∀ k, k < 8 → ∃ c t, w.heap[(A k).block]? = some (.cells c t (0, 0))
  ne : ∀ i j, i < 8 → j < 8 → i ≠ j → A i ≠ A j
  c0 : w.cell? ⟨0, 0, none⟩ = some (.iface 407 (.pointer (some (A 0))))
  c1 : w.cell? ⟨1, 0, none⟩ = some (.iface 407 (.pointer (some (A 1))))
  c2 : w.cell? ⟨2, 0, none⟩ = some (.iface 407 (.pointer (some (A 2))))
  c3 : w.cell? ⟨3, 0, none⟩ = some (.iface 407 (.pointer (some (A 3))))
  c4 : w.cell? ⟨4, 0, none⟩ = some (.iface 407 (.pointer (some (A 4))))
  c5 : w.cell? ⟨5, 0, none⟩ = some (.iface 407 (.pointer (some (A 5))))
  c6 : w.cell? ⟨6, 0, none⟩ = some (.iface 407 (.pointer (some (A 6))))
  c7 : w.cell? ⟨7, 0, none⟩ = some (.iface 407 (.pointer (some (A 7))))
  et : w.cell? ⟨8, 0, none⟩ = some (.iface 286 (.agg #[.pointer (some ⟨13, 72, none⟩)]))

theorem Glb.below {A : Nat → Addr} {w w' : World} (h : Glb A w) (hb : Below w.heap.size w w') : Glb A w' := by
  have cc : ∀ {a : Addr} {v : Value}, w.cell? a = some v → w'.cell? a = some v := fun {a v} e => (hb.cell (World.block_lt_of_cell? _ _ e)).trans e
  refine ⟨fun k hk => ?_, h.ne, cc h.c0, cc h.c1, cc h.c2, cc h.c3, cc h.c4, cc h.c5, cc h.c6, cc h.c7, cc h.et⟩
  obtain ⟨c, t, e⟩ := h.blk k hk
  exact ⟨c, t, (hb.block _ (lt_of_block e)).trans e⟩

/-- what plain tells of an error. -/
def faultVal (what loc : Int) (s : ByteArray) : Value := .agg #[.int .i64 what, .int .i64 loc, .string s, .int .i64 0, .int .i64 0]

/-- the number by which plain tells a sentinel. -/
def senNo (j : Nat) : Int := [1, 3, 6, 7, 8, 9, 10, 11].getD j (-1)

/-- the world behind the variables of plain.fault. -/
def fltW (w : World) : World := (((w.alloc (.cells #[.int .i64 0, .int .i64 0, .string { data := #[] }, .int .i64 0, .int .i64 0] 23)).alloc (.cells #[.pointer none] 134)).alloc (.cells #[.pointer none] 135)).alloc (.cells #[.pointer none] 136)
theorem fltW_size (w : World) : (fltW w).heap.size = w.heap.size + 4 := by simp [fltW]
theorem fltW_below (w : World) : Below w.heap.size w (fltW w) := ((((Below.refl _ _).alloc (by simp) _).alloc (by simp) _).alloc (by simp; omega) _).alloc (by simp; omega) _
theorem fltW_r (w : World) : (fltW w).heap[w.heap.size]? = some (.cells #[.int .i64 0, .int .i64 0, .string { data := #[] }, .int .i64 0, .int .i64 0] 23 (0, 0)) := by
  unfold fltW
  rw [Below.heap_alloc _ _ _ (by simp; omega), Below.heap_alloc _ _ _ (by simp; omega), Below.heap_alloc _ _ _ (by simp)]
  exact heap_alloc_new _ _
theorem fltW_s (w : World) : (fltW w).heap[w.heap.size + 1]? = some (.cells #[.pointer none] 134 (0, 0)) := by
  unfold fltW
  rw [Below.heap_alloc _ _ _ (by simp), Below.heap_alloc _ _ _ (by simp)]
  have := heap_alloc_new (w.alloc (.cells #[.int .i64 0, .int .i64 0, .string { data := #[] }, .int .i64 0, .int .i64 0] 23)) (.cells #[.pointer none] 134)
  simpa using this

/-- the result, stored. -/
def fltSet (w : World) (fb : Nat) (v0 v1 v2 v3 v4 : Value) : World := ((((w.setCell ⟨fb, 0, none⟩ v0).setCell ⟨fb, 1, none⟩ v1).setCell ⟨fb, 2, none⟩ v2).setCell ⟨fb, 3, none⟩ v3).setCell ⟨fb, 4, none⟩ v4
theorem fltSet_blk {w : World} {fb : Nat} {a b c d e : Value} {t : TypeId} (h : w.heap[fb]? = some (.cells #[a, b, c, d, e] t (0, 0))) (v0 v1 v2 v3 v4 : Value) : (fltSet w fb v0 v1 v2 v3 v4).heap[fb]? = some (.cells #[v0, v1, v2, v3, v4] t (0, 0)) := by
  simp [fltSet, World.setCell, h, Array.getElem?_modify]
theorem fltSet_below {B : Nat} {a w : World} (h : Below B a w) {fb : Nat} (hf : B ≤ fb) (v0 v1 v2 v3 v4 : Value) : Below B a (fltSet w fb v0 v1 v2 v3 v4) :=
  ((((h.setCell (by simpa using hf) _).setCell (by simpa using hf) _).setCell (by simpa using hf) _).setCell (by simpa using hf) _).setCell (by simpa using hf) _

set_option maxRecDepth 20000 in
set_option maxHeartbeats 4000000 in
theorem fault_nil (w : World) : Calls Tryz.prog 37 #[.nilIface] w fun e w' => e = .returned (faultVal 0 0 { data := #[] }) ∧ Below w.heap.size w w' := by
  go_enter Tryz.func37, Tryz.ntmps37
  go_wp2_with (go_at_call 71; refine (as_nil _ _).mono ?_; rintro e w' ⟨rfl, hww⟩; rw [hww]; clear hww w')
  change bodyPost _ _ _ _ _ (fltW w)
  have hr := fltW_r w
  have hB := fltW_below w
  generalize fltW w = w1 at *
  have d0 : w1.cell? ⟨w.heap.size, 0, none⟩ = some (.int .i64 0) := by simp [World.cell?, hr]
  have d1 : w1.cell? ⟨w.heap.size, 1, none⟩ = some (.int .i64 0) := by simp [World.cell?, hr]
  have d2 : w1.cell? ⟨w.heap.size, 2, none⟩ = some (.string { data := #[] }) := by simp [World.cell?, hr]
  have d3 : w1.cell? ⟨w.heap.size, 3, none⟩ = some (.int .i64 0) := by simp [World.cell?, hr]
  have d4 : w1.cell? ⟨w.heap.size, 4, none⟩ = some (.int .i64 0) := by simp [World.cell?, hr]
  exact bodyPost_ret (v := faultVal 0 0 { data := #[] }) (by simp [results, Tryz.results37, go_sem, faultVal, d0, d1, d2, d3, d4]) rfl ⟨rfl, hB⟩

set_option maxRecDepth 20000 in
set_option maxHeartbeats 4000000 in
theorem fault_syn {A : Nat → Addr} (w : World) (hG : Glb A w) (a : Addr) (loc : Int) (ha : w.cell? a = some (.int .i64 loc)) :
    Calls Tryz.prog 37 #[.iface 134 (.pointer (some a))] w fun e w' => e = .returned (faultVal 2 loc { data := #[] }) ∧ Below w.heap.size w w' := by
  have hB := fltW_below w
  have hr := fltW_r w
  have hs := fltW_s w
  have hz := fltW_size w
  have hg := (hG.below hB).et
  have ha1 : (fltW w).cell? a = some (.int .i64 loc) := (hB.cell (World.block_lt_of_cell? _ _ ha)).trans ha
  have hab := World.block_lt_of_cell? _ _ ha
  clear hG ha
  go_enter Tryz.func37, Tryz.ntmps37
  go_wp2_with fail
  change Calls _ _ _ (fltW w) _
  generalize fltW w = w1 at *
  refine (as_miss_env_syn _ _ _ hg).mono ?_
  rintro e w2 ⟨rfl, hww⟩
  have hB2 : Below w1.heap.size w1 w2 := by rw [hww]; exact (((Below.refl _ _).alloc (by simp) _).alloc (by simp) _).alloc (by simp; omega) _
  clear hww
  have hz2 := hB2.size
  have hg2 := (hB2.cell (World.block_lt_of_cell? _ _ hg)).trans hg
  have hr2 := (hB2.block _ (by omega)).trans hr
  have hs2 := (hB2.block _ (by omega)).trans hs
  have ha2 := (hB2.cell (World.block_lt_of_cell? _ _ ha1)).trans ha1
  have hBB := hB.trans (hB2.mono (by omega))
  clear hB hB2 hg hr hs ha1
  go_wp2_with fail
  have hs0 : w2.cell? ⟨w.heap.size + 1, 0, none⟩ = some (.pointer none) := by simp [World.cell?, hs2]
  have hf0 : w2.frozen? ⟨w.heap.size + 1, 0, none⟩ = false := by simp [World.frozen?, hs2]
  refine (as_hit_syn a _ _ w2 hs0 hf0 hg2).mono ?_
  rintro e w3 ⟨rfl, hww⟩
  have hB3 : Below w2.heap.size w2 ((((w2.alloc (.cells #[.pointer (some ⟨w.heap.size + 1, 0, none⟩)] 143)).alloc (.cells #[.pointer (some ⟨13, 143, none⟩), .pointer (some ⟨w2.heap.size, 0, none⟩), .int .u64 150] 193)).alloc (.cells #[.pointer (some ⟨13, 143, none⟩), .pointer (some ⟨w2.heap.size, 0, none⟩), .int .u64 150] 193)).alloc (.cells #[.pointer (some a)] 134)) := ((((Below.refl _ _).alloc (by simp) _).alloc (by simp) _).alloc (by simp; omega) _).alloc (by simp; omega) _
  generalize (((w2.alloc (.cells #[.pointer (some ⟨w.heap.size + 1, 0, none⟩)] 143)).alloc (.cells #[.pointer (some ⟨13, 143, none⟩), .pointer (some ⟨w2.heap.size, 0, none⟩), .int .u64 150] 193)).alloc (.cells #[.pointer (some ⟨13, 143, none⟩), .pointer (some ⟨w2.heap.size, 0, none⟩), .int .u64 150] 193)).alloc (.cells #[.pointer (some a)] 134) = w25 at *
  have hz3 := hB3.size
  have hr3 : w3.heap[w.heap.size]? = some (.cells #[.int .i64 0, .int .i64 0, .string { data := #[] }, .int .i64 0, .int .i64 0] 23 (0, 0)) := by rw [hww, Below.heap_setCell _ _ _ _ (by show w.heap.size ≠ w.heap.size + 1; omega), hB3.block _ (by omega)]; exact hr2
  have hs3 : w3.cell? ⟨w.heap.size + 1, 0, none⟩ = some (.pointer (some a)) := by
    rw [hww]
    have : w25.heap[w.heap.size + 1]? = some (.cells #[.pointer none] 134 (0, 0)) := (hB3.block _ (by omega)).trans hs2
    simp [World.cell?, World.setCell, this, Array.getElem?_modify]
  have ha3 : w3.cell? a = some (.int .i64 loc) := by
    rw [hww, World.cell?_setCell_other _ _ _ _ (fun e => by rw [← e] at hab; simp at hab; omega), hB3.cell (by omega)]
    exact ha2
  have hB3' : Below w.heap.size w w3 := by
    rw [hww]
    exact (hBB.trans (hB3.mono (by omega))).setCell (by simp) _
  clear hww hB3 hBB hg2 hr2 hs2 ha2 hs0 hf0
  clear hz hz2 hz3
  have d0 : w3.cell? ⟨w.heap.size, 0, none⟩ = some (.int .i64 0) := by simp [World.cell?, hr3]
  have d1 : w3.cell? ⟨w.heap.size, 1, none⟩ = some (.int .i64 0) := by simp [World.cell?, hr3]
  have d2 : w3.cell? ⟨w.heap.size, 2, none⟩ = some (.string { data := #[] }) := by simp [World.cell?, hr3]
  have d3 : w3.cell? ⟨w.heap.size, 3, none⟩ = some (.int .i64 0) := by simp [World.cell?, hr3]
  have d4 : w3.cell? ⟨w.heap.size, 4, none⟩ = some (.int .i64 0) := by simp [World.cell?, hr3]
  have fz : ∀ i, w3.frozen? ⟨w.heap.size, i, none⟩ = false := fun i => by simp [World.frozen?, hr3]
  go_wp2
  change bodyPost _ _ _ _ _ (fltSet w3 w.heap.size (.int .i64 2) (.int .i64 loc) (.string { data := #[] }) (.int .i64 0) (.int .i64 0))
  have hr4 := fltSet_blk hr3 (.int .i64 2) (.int .i64 loc) (.string { data := #[] }) (.int .i64 0) (.int .i64 0)
  have hB4 := fltSet_below hB3' (Nat.le_refl _) (.int .i64 2) (.int .i64 loc) (.string { data := #[] }) (.int .i64 0) (.int .i64 0)
  generalize fltSet w3 w.heap.size (.int .i64 2) (.int .i64 loc) (.string { data := #[] }) (.int .i64 0) (.int .i64 0) = w4 at *
  clear d0 d1 d2 d3 d4
  have d0 : w4.cell? ⟨w.heap.size, 0, none⟩ = some (.int .i64 2) := by simp [World.cell?, hr4]
  have d1 : w4.cell? ⟨w.heap.size, 1, none⟩ = some (.int .i64 loc) := by simp [World.cell?, hr4]
  have d2 : w4.cell? ⟨w.heap.size, 2, none⟩ = some (.string { data := #[] }) := by simp [World.cell?, hr4]
  have d3 : w4.cell? ⟨w.heap.size, 3, none⟩ = some (.int .i64 0) := by simp [World.cell?, hr4]
  have d4 : w4.cell? ⟨w.heap.size, 4, none⟩ = some (.int .i64 0) := by simp [World.cell?, hr4]
  exact bodyPost_ret (v := faultVal 2 loc { data := #[] }) (by simp [results, Tryz.results37, go_sem, faultVal, d0, d1, d2, d3, d4]) rfl ⟨rfl, hB4⟩
end Go.Proofs.YtleenphlgbklmaaGreatDoor

namespace Go.Proofs.YtleenphlgbklmaaGreatDoor
open Go.RowKit

/-- all that lay there is as it was (the tape may have been asked). -/
structure Kept (w w' : World) : Prop where
  os : w'.os = w.os
  output : w'.output = w.output
  size : w.heap.size ≤ w'.heap.size
  block : ∀ k, k < w.heap.size → w'.heap[k]? = w.heap[k]?
theorem Kept.refl (w : World) : Kept w w := ⟨rfl, rfl, Nat.le_refl _, fun _ _ => rfl⟩
theorem Kept.trans {a b c : World} (h : Kept a b) (k : Kept b c) : Kept a c := ⟨k.os.trans h.os, k.output.trans h.output, Nat.le_trans h.size k.size, fun i hi => (k.block i (Nat.lt_of_lt_of_le hi h.size)).trans (h.block i hi)⟩
theorem Kept.below {w w' : World} (h : Below w.heap.size w w') : Kept w w' := ⟨h.os, h.output, h.size, h.block⟩
theorem Kept.alike {w w' : World} (h : w'.Alike w) : Kept w w' := ⟨h.2.1, h.2.2, by rw [h.1]; exact Nat.le_refl _, fun k _ => by rw [h.1]⟩
theorem Kept.cell {w w' : World} (h : Kept w w') {a : Addr} {v : Value} (e : w.cell? a = some v) : w'.cell? a = some v := (World.cell?_of_block (h.block a.block (World.block_lt_of_cell? _ _ e))).trans e
theorem Kept.blk {w w' : World} (h : Kept w w') {k : Nat} {o : Obj} (e : w.heap[k]? = some o) : w'.heap[k]? = some o := (h.block k (lt_of_block e)).trans e
theorem Glb.kept {A : Nat → Addr} {w w' : World} (h : Glb A w) (hb : Kept w w') : Glb A w' := by
  refine ⟨fun k hk => ?_, h.ne, hb.cell h.c0, hb.cell h.c1, hb.cell h.c2, hb.cell h.c3, hb.cell h.c4, hb.cell h.c5, hb.cell h.c6, hb.cell h.c7, hb.cell h.et⟩
  obtain ⟨c, t, e⟩ := h.blk k hk
  exact ⟨c, t, hb.blk e⟩
theorem Glb.is {A : Nat → Addr} {w : World} (h : Glb A w) (i j : Nat) (hi : i < 8) (hj : j < 8) :
    Calls Tryz.prog 73 #[.iface 407 (.pointer (some (A i))), .iface 407 (.pointer (some (A j)))] w fun e w' => e = .returned (.bool (decide (i = j))) ∧ w' = w := by
  by_cases e : i = j
  · subst e
    have : decide (i = i) = true := by simp
    rw [this]
    exact is_same _ _
  · obtain ⟨c, t, hc⟩ := h.blk i hi
    obtain ⟨c', t', hc'⟩ := h.blk j hj
    have : decide (i = j) = false := by simp [e]
    rw [this]
    exact is_other _ _ c c' t t' w (h.ne i j hi hj e) hc hc'

/-- an entry of the map of sentinels. -/
def senE (A : Nat → Addr) (j : Nat) : MapEntry := { key := .int .i64 (senNo j), val := .iface 407 (.pointer (some (A j))), born := j }
def senEs (A : Nat → Addr) (n : Nat) : Array MapEntry := ((List.range n).map (senE A)).toArray
theorem senEs_succ (A : Nat → Addr) (n : Nat) : (senEs A n).push (senE A n) = senEs A (n + 1) := by
  simp [senEs, List.range_succ]
theorem senEs_mem {A : Nat → Addr} {n : Nat} {e : MapEntry} (h : e ∈ (senEs A n).toList) : ∃ i, i < n ∧ e = senE A i := by
  simp [senEs] at h
  obtain ⟨i, hi, rfl⟩ := h
  exact ⟨i, hi, rfl⟩
theorem senEs_nodup (A : Nat → Addr) (n : Nat) : ((senEs A n).toList.map (·.born)).Nodup := by
  have : (senEs A n).toList.map (·.born) = List.range n := by
    simp only [senEs, List.map_map]
    exact List.map_id'' (fun x => rfl) _
  rw [this]
  exact List.nodup_range
theorem run_insert_new {P : Program} (w : World) (mty kt et : TypeId) (es : Array MapEntry) (clock : Nat) (k : Int) (val : Value) (hm : P.underlying mty = some (.map kt et)) (hk : P.underlying kt = some (.int .i64)) (hf : Instr.findNow (.int .i64) (.int .i64 k) es.toList 0 = some none) (hkk : MapKept.IsKey (.int .i64) (.int .i64 k)) :
    (Instr.mapUpdate mty (.map (some w.heap.size)) (.int .i64 k) val).run P (w.alloc (.map es clock)) = .ok () (w.alloc (.map (es.push { key := .int .i64 k, val := val, born := clock }) (clock + 1))) := by
  have hb : (w.alloc (.map es clock)).heap[w.heap.size]? = some (.map es clock) := heap_alloc_new _ _
  have hc : (Instr.checkKey false 10000 kt (.int .i64 k)).run P (w.alloc (.map es clock)) = .ok () (w.alloc (.map es clock)) := MapKept.run_checkKey hk hkk false 9999
  have hset : ({ w.alloc (.map es clock) with heap := (w.alloc (.map es clock)).heap.setIfInBounds w.heap.size (.map (es.push { key := .int .i64 k, val := val, born := clock }) (clock + 1)) } : World) = w.alloc (.map (es.push { key := .int .i64 k, val := val, born := clock }) (clock + 1)) := by
    have h : (w.heap.push (.map es clock)).setIfInBounds w.heap.size (.map (es.push { key := .int .i64 k, val := val, born := clock }) (clock + 1)) = w.heap.push (.map (es.push { key := .int .i64 k, val := val, born := clock }) (clock + 1)) := by
      apply Array.ext_getElem?
      intro i
      rw [Array.getElem?_setIfInBounds, Array.getElem?_push, Array.getElem?_push]
      by_cases e : w.heap.size = i
      · subst e; simp
      · have e2 : i ≠ w.heap.size := fun q => e q.symm
        simp [e, e2]
    show ({ w with heap := (w.heap.push (.map es clock)).setIfInBounds w.heap.size _ } : World) = { w with heap := w.heap.push _ }
    rw [h]
  simp only [Instr.mapUpdate, Sem.run_bind, run_underlying hm, MapKept.run_getObj_map hb, hc, MapKept.run_findKey hk hf, MapKept.run_setObj_map _ hb, Result.andThen]
  simpa using hset
theorem sen_insert (A : Nat → Addr) (w : World) (j : Nat) (hj : j < 8) :
    (Instr.mapUpdate 149 (.map (some w.heap.size)) (.int .i64 (senNo j)) (.iface 407 (.pointer (some (A j))))).run Tryz.prog (w.alloc (.map (senEs A j) j)) = .ok () (w.alloc (.map (senEs A (j + 1)) (j + 1))) := by
  rw [← senEs_succ]
  refine run_insert_new w 149 3 72 _ _ _ _ Tryz.underlying149 Tryz.underlying3 ?_ ?_
  · match j, hj with
    | 0, _ => rfl
    | 1, _ => rfl
    | 2, _ => rfl
    | 3, _ => rfl
    | 4, _ => rfl
    | 5, _ => rfl
    | 6, _ => rfl
    | 7, _ => rfl
  · simp [MapKept.IsKey]

set_option maxRecDepth 20000 in
set_option maxHeartbeats 4000000 in
theorem fault_sen {A : Nat → Addr} (w : World) (hG : Glb A w) (j : Nat) (hj : j < 8) :
    Calls Tryz.prog 37 #[.iface 407 (.pointer (some (A j)))] w fun e w' => e = .returned (faultVal (senNo j) 0 { data := #[] }) ∧ Kept w w' := by
  have hB := fltW_below w
  have hr := fltW_r w
  have hz := fltW_size w
  have hG1 := hG.below hB
  clear hG
  go_enter Tryz.func37, Tryz.ntmps37
  go_wp2_with fail
  change Calls _ _ _ (fltW w) _
  generalize fltW w = w1 at *
  refine (as_miss_env_es _ _ _ hG1.et).mono ?_
  rintro e w2 ⟨rfl, hww⟩
  have hB2 : Below w1.heap.size w1 w2 := by rw [hww]; exact (((Below.refl _ _).alloc (by simp) _).alloc (by simp) _).alloc (by simp; omega) _
  clear hww
  have hz2 := hB2.size
  have hG2 := hG1.below hB2
  have hr2 := (hB2.block _ (by omega)).trans hr
  have hBB := hB.trans (hB2.mono (by omega))
  clear hB hB2 hG1 hr
  go_wp2_with fail
  refine (as_miss_syn_es _ _ _ hG2.et).mono ?_
  rintro e w3 ⟨rfl, hww⟩
  have hB2 : Below w2.heap.size w2 w3 := by rw [hww]; exact (((Below.refl _ _).alloc (by simp) _).alloc (by simp) _).alloc (by simp; omega) _
  clear hww
  have hz3 := hB2.size
  have hG3 := hG2.below hB2
  have hr3 := (hB2.block _ (by omega)).trans hr2
  have hB3 := hBB.trans (hB2.mono (by omega))
  clear hBB hB2 hG2 hr2
  go_wp2_with fail
  refine (as_miss_unb_es _ _ _ hG3.et).mono ?_
  rintro e w4 ⟨rfl, hww⟩
  have hB2 : Below w3.heap.size w3 w4 := by rw [hww]; exact (((Below.refl _ _).alloc (by simp) _).alloc (by simp) _).alloc (by simp; omega) _
  clear hww
  have hz4 := hB2.size
  have hG4 := hG3.below hB2
  have hr4 := (hB2.block _ (by omega)).trans hr3
  have hB4 := hB3.trans (hB2.mono (by omega))
  clear hB3 hB2 hG3 hr3
  have hwz : w.heap.size + 4 ≤ w4.heap.size := by omega
  clear hz hz2 hz3 hz4
  have gl : ∀ (g : Nat) (v : Value), w4.cell? ⟨g, 0, none⟩ = some v → ∀ o, (w4.alloc o).cell? ⟨g, 0, none⟩ = some v := fun g v e o => (World.cell?_of_block (Below.heap_alloc w4 o g (World.block_lt_of_cell? _ _ e))).trans e
  have c0 := gl _ _ hG4.c0
  have c1 := gl _ _ hG4.c1
  have c2 := gl _ _ hG4.c2
  have c3 := gl _ _ hG4.c3
  have c4 := gl _ _ hG4.c4
  have c5 := gl _ _ hG4.c5
  have c6 := gl _ _ hG4.c6
  have c7 := gl _ _ hG4.c7
  clear gl
  have hmk : (Instr.makeMap 149 none).run Tryz.prog w4 = .ok (.map (some w4.heap.size)) (w4.alloc (.map #[] 0)) := rfl
  have i0 : (Instr.mapUpdate 149 (.map (some w4.heap.size)) (.int .i64 1) (.iface 407 (.pointer (some (A 0))))).run Tryz.prog (w4.alloc (.map #[] 0)) = .ok () (w4.alloc (.map (senEs A 1) 1)) := sen_insert A w4 0 (by decide)
  have i1 : (Instr.mapUpdate 149 (.map (some w4.heap.size)) (.int .i64 3) (.iface 407 (.pointer (some (A 1))))).run Tryz.prog (w4.alloc (.map (senEs A 1) 1)) = .ok () (w4.alloc (.map (senEs A 2) 2)) := sen_insert A w4 1 (by decide)
  have i2 : (Instr.mapUpdate 149 (.map (some w4.heap.size)) (.int .i64 6) (.iface 407 (.pointer (some (A 2))))).run Tryz.prog (w4.alloc (.map (senEs A 2) 2)) = .ok () (w4.alloc (.map (senEs A 3) 3)) := sen_insert A w4 2 (by decide)
  have i3 : (Instr.mapUpdate 149 (.map (some w4.heap.size)) (.int .i64 7) (.iface 407 (.pointer (some (A 3))))).run Tryz.prog (w4.alloc (.map (senEs A 3) 3)) = .ok () (w4.alloc (.map (senEs A 4) 4)) := sen_insert A w4 3 (by decide)
  have i4 : (Instr.mapUpdate 149 (.map (some w4.heap.size)) (.int .i64 8) (.iface 407 (.pointer (some (A 4))))).run Tryz.prog (w4.alloc (.map (senEs A 4) 4)) = .ok () (w4.alloc (.map (senEs A 5) 5)) := sen_insert A w4 4 (by decide)
  have i5 : (Instr.mapUpdate 149 (.map (some w4.heap.size)) (.int .i64 9) (.iface 407 (.pointer (some (A 5))))).run Tryz.prog (w4.alloc (.map (senEs A 5) 5)) = .ok () (w4.alloc (.map (senEs A 6) 6)) := sen_insert A w4 5 (by decide)
  have i6 : (Instr.mapUpdate 149 (.map (some w4.heap.size)) (.int .i64 10) (.iface 407 (.pointer (some (A 6))))).run Tryz.prog (w4.alloc (.map (senEs A 6) 6)) = .ok () (w4.alloc (.map (senEs A 7) 7)) := sen_insert A w4 6 (by decide)
  have i7 : (Instr.mapUpdate 149 (.map (some w4.heap.size)) (.int .i64 11) (.iface 407 (.pointer (some (A 7))))).run Tryz.prog (w4.alloc (.map (senEs A 7) 7)) = .ok () (w4.alloc (.map (senEs A 8) 8)) := sen_insert A w4 7 (by decide)
  have hb5 : (w4.alloc (.map (senEs A 8) 8)).heap[w4.heap.size]? = some (.map (senEs A 8) 8) := heap_alloc_new _ _
  have hK5 : Kept w4 (w4.alloc (.map (senEs A 8) 8)) := Kept.below ((Below.refl _ _).alloc (by simp) _)
  have hG5 := hG4.kept hK5
  have hr5 := hK5.blk hr4
  have hKw := (Kept.below hB4).trans hK5
  clear hG4 hr4 hB4 hK5
  have hrg := run_range_map (P := Tryz.prog) (w4.alloc (.map (senEs A 8) 8)) 149 3 72 w4.heap.size (senEs A 8) 8 Tryz.underlying149 hb5
  go_wp2_with fail
  have h5 : (w4.alloc (.map (senEs A 8) 8)).heap.size = w4.heap.size + 1 := by simp
  generalize w4.alloc (.map (senEs A 8) 8) = w5 at *
  clear c0 c1 c2 c3 c4 c5 c6 c7 i0 i1 i2 i3 i4 i5 i6 i7 hmk
  generalize w4.heap.size = bm at *
  go_loopw [] (fun w' => ∃ (v1 : World) (seen : Array Nat), v1.Alike w5 ∧ w' = v1.alloc (.mapIter (some bm) 8 seen 8) ∧ seen.contains j = false) (fun w' => (leftOf (senEs A 8) (w'.iterSeen (bm + 1))).size)
  case atStart => exact ⟨w5, #[], ⟨rfl, rfl, rfl⟩, rfl, by simp⟩
  case round =>
    obtain ⟨v1, seen, hal, rfl, hno⟩ := hrel
    have hsz : v1.heap.size = bm + 1 := by rw [hal.1, h5]
    have hb1 : v1.heap[bm]? = some (.map (senEs A 8) 8) := by rw [hal.1]; exact hb5
    have law := run_next_map (P := Tryz.prog) v1 0 bm 8 8 seen (senEs A 8) 8 hb1 (fun x hx => by obtain ⟨i, hi, rfl⟩ := senEs_mem hx; exact hi) (Nat.le_refl _)
    rw [hsz] at law
    rcases law with ⟨h0, hrun⟩ | ⟨e, he, v2, hal2, hrun⟩
    · exfalso
      have hin : senE A j ∈ (senEs A 8).toList := by simp [senEs]; exact ⟨j, hj, rfl⟩
      have := all_seen (senEs A 8) seen h0 _ hin
      have h2 : seen.contains j = true := this
      rw [hno] at h2
      cases h2
    · obtain ⟨i, hi, rfl⟩ := senEs_mem (mem_left he).1
      have hrun' : ∀ ty, (Instr.next (.pointer (some ⟨bm + 1, 0, none⟩)) false ty).run Tryz.prog (v1.alloc (.mapIter (some bm) 8 seen 8)) = .ok (.tuple #[.bool true, .int .i64 (senNo i), .iface 407 (.pointer (some (A i)))]) (v2.alloc (.mapIter (some bm) 8 (seen.push i) 8)) := fun _ => hrun
      have hsz2 : v2.heap.size = bm + 1 := by rw [hal2.1, hal.1, h5]
      have hb2 : v2.heap[bm]? = some (.map (senEs A 8) 8) := by rw [hal2.1]; exact hb1
      have hen0 := run_entry_map (P := Tryz.prog) v2 bm 8 seen (senEs A 8) 8 (senE A i) hb2 (mem_left he).1 (senEs_nodup A 8)
      rw [hsz2] at hen0
      have hen : (Instr.entry (.pointer (some ⟨bm + 1, 0, none⟩))).run Tryz.prog (v2.alloc (.mapIter (some bm) 8 (seen.push i) 8)) = .ok (.tuple #[.int .i64 (senNo i), .iface 407 (.pointer (some (A i)))]) (v2.alloc (.mapIter (some bm) 8 (seen.push i) 8)) := hen0
      clear hen0 hrun
      have hal3 : v2.Alike w5 := ⟨hal2.1.trans hal.1, hal2.2.1.trans hal.2.1, hal2.2.2.trans hal.2.2⟩
      have hK6 : Kept w5 (v2.alloc (.mapIter (some bm) 8 (seen.push i) 8)) := (Kept.alike hal3).trans (Kept.below ((Below.refl _ _).alloc (by simp) _))
      have hG6 := hG5.kept hK6
      have hr6 := hK6.blk hr5
      have d0 : (v2.alloc (.mapIter (some bm) 8 (seen.push i) 8)).cell? ⟨w.heap.size, 0, none⟩ = some (.int .i64 0) := by simp only [World.cell?, hr6]; rfl
      have d1 : (v2.alloc (.mapIter (some bm) 8 (seen.push i) 8)).cell? ⟨w.heap.size, 1, none⟩ = some (.int .i64 0) := by simp only [World.cell?, hr6]; rfl
      have d2 : (v2.alloc (.mapIter (some bm) 8 (seen.push i) 8)).cell? ⟨w.heap.size, 2, none⟩ = some (.string { data := #[] }) := by simp only [World.cell?, hr6]; rfl
      have d3 : (v2.alloc (.mapIter (some bm) 8 (seen.push i) 8)).cell? ⟨w.heap.size, 3, none⟩ = some (.int .i64 0) := by simp only [World.cell?, hr6]; rfl
      have d4 : (v2.alloc (.mapIter (some bm) 8 (seen.push i) 8)).cell? ⟨w.heap.size, 4, none⟩ = some (.int .i64 0) := by simp only [World.cell?, hr6]; rfl
      have fz : ∀ q, (v2.alloc (.mapIter (some bm) 8 (seen.push i) 8)).frozen? ⟨w.heap.size, q, none⟩ = false := fun q => by simp only [World.frozen?, hr6]; rfl
      by_cases hij : j = i
      · subst hij
        have hd : decide (j = j) = true := by simp
        go_wp2_with (go_at_call 73; refine (hG6.is j j hj hi).mono ?_; rintro e w' ⟨rfl, hww⟩; rw [hww, hd]; clear hww w')
        generalize v2.alloc (.mapIter (some bm) 8 (seen.push j) 8) = w6 at *
        change bodyPost _ _ _ _ _ (fltSet w6 w.heap.size (.int .i64 (senNo j)) (.int .i64 0) (.string { data := #[] }) (.int .i64 0) (.int .i64 0))
        have hr7 := fltSet_blk hr6 (.int .i64 (senNo j)) (.int .i64 0) (.string { data := #[] }) (.int .i64 0) (.int .i64 0)
        have hK7 : Kept w (fltSet w6 w.heap.size (.int .i64 (senNo j)) (.int .i64 0) (.string { data := #[] }) (.int .i64 0) (.int .i64 0)) := by
          have h1 := hKw.trans hK6
          have h2 := fltSet_below (Below.refl w.heap.size w6) (Nat.le_refl _) (.int .i64 (senNo j)) (.int .i64 0) (.string { data := #[] }) (.int .i64 0) (.int .i64 0)
          exact ⟨h2.os.trans h1.os, h2.output.trans h1.output, Nat.le_trans h1.size h2.size, fun q hq => (h2.block q hq).trans (h1.block q hq)⟩
        generalize fltSet w6 w.heap.size (.int .i64 (senNo j)) (.int .i64 0) (.string { data := #[] }) (.int .i64 0) (.int .i64 0) = w7 at *
        clear d0 d1 d2 d3 d4
        have d0 : w7.cell? ⟨w.heap.size, 0, none⟩ = some (.int .i64 (senNo j)) := by simp [World.cell?, hr7]
        have d1 : w7.cell? ⟨w.heap.size, 1, none⟩ = some (.int .i64 0) := by simp [World.cell?, hr7]
        have d2 : w7.cell? ⟨w.heap.size, 2, none⟩ = some (.string { data := #[] }) := by simp [World.cell?, hr7]
        have d3 : w7.cell? ⟨w.heap.size, 3, none⟩ = some (.int .i64 0) := by simp [World.cell?, hr7]
        have d4 : w7.cell? ⟨w.heap.size, 4, none⟩ = some (.int .i64 0) := by simp [World.cell?, hr7]
        exact bodyPost_ret (v := faultVal (senNo j) 0 { data := #[] }) (by simp [results, Tryz.results37, go_sem, faultVal, d0, d1, d2, d3, d4]) rfl ⟨rfl, hK7⟩
      · have hd : decide (j = i) = false := by simp [hij]
        go_wp2_with (go_at_call 73; refine (hG6.is j i hj hi).mono ?_; rintro e w' ⟨rfl, hww⟩; rw [hww, hd]; clear hww w')
        go_roundw
        case rel => exact ⟨v2, seen.push i, hal3, rfl, by rw [contains_push, hno]; simp [hij]⟩
        case measure =>
          rw [← hsz2, World.iterSeen_alloc, hsz2, ← hsz, World.iterSeen_alloc]
          exact left_shrinks (senEs A 8) seen (senE A i) he
end Go.Proofs.YtleenphlgbklmaaGreatDoor

namespace Go.Proofs.YtleenphlgbklmaaGreatDoor
open Go.RowKit

set_option maxRecDepth 20000 in
set_option maxHeartbeats 4000000 in
theorem said_any (w : World) (a b c d : Int) (s : ByteArray) : Calls Tryz.prog 16 #[.agg #[.int .i64 a, .int .i64 b, .string s, .int .i64 c, .int .i64 d]] w fun e w' => e = .returned (.agg #[.int .i64 a, .int .i64 b, .string s, .int .i64 c, .int .i64 d]) ∧ Below w.heap.size w w' := by
  go_enter Tryz.func16, Tryz.ntmps16
  go_wp2
  obtain ⟨w1, hw1⟩ : ∃ w1, w1 = (w.alloc (.cells #[.int .i64 a, .int .i64 b, .string s, .int .i64 c, .int .i64 d] 23)).alloc (.cells #[.int .i64 a, .int .i64 b, .string s, .int .i64 c, .int .i64 d] 27) := ⟨_, rfl⟩
  have hB : Below w.heap.size w w1 := by rw [hw1]; exact ((Below.refl _ _).alloc (by simp) _).alloc (by simp) _
  have hr : w1.heap[w.heap.size + 1]? = some (.cells #[.int .i64 a, .int .i64 b, .string s, .int .i64 c, .int .i64 d] 27 (0, 0)) := by
    have := heap_alloc_new (w.alloc (.cells #[.int .i64 a, .int .i64 b, .string s, .int .i64 c, .int .i64 d] 23)) (.cells #[.int .i64 a, .int .i64 b, .string s, .int .i64 c, .int .i64 d] 27)
    rw [hw1]
    simpa using this
  rw [← hw1]
  clear hw1
  have d0 : w1.cell? ⟨w.heap.size + 1, 0, none⟩ = some (.int .i64 a) := by simp [World.cell?, hr]
  have d1 : w1.cell? ⟨w.heap.size + 1, 1, none⟩ = some (.int .i64 b) := by simp [World.cell?, hr]
  have d2 : w1.cell? ⟨w.heap.size + 1, 2, none⟩ = some (.string s) := by simp [World.cell?, hr]
  have d3 : w1.cell? ⟨w.heap.size + 1, 3, none⟩ = some (.int .i64 c) := by simp [World.cell?, hr]
  have d4 : w1.cell? ⟨w.heap.size + 1, 4, none⟩ = some (.int .i64 d) := by simp [World.cell?, hr]
  exact bodyPost_ret (v := .agg #[.int .i64 a, .int .i64 b, .string s, .int .i64 c, .int .i64 d]) (by simp [results, Tryz.results16, go_sem, d0, d1, d2, d3, d4]) rfl ⟨rfl, hB⟩
end Go.Proofs.YtleenphlgbklmaaGreatDoor
