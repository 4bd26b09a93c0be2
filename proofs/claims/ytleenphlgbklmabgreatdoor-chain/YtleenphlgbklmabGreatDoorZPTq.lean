import Derived.Test.YtleenphlgbklmabGreatDoorZPVar
import Derived.Deep.LoopGhost
import Derived.Test.YtleenphlgbklmabGreatDoorZPSx
import Derived.Test.YtleenphlgbklmabGreatDoorZTEn
import Derived.Test.YtleenphlgbklmabGreatDoorZTree
import Derived.Test.YtleenphlgbklmabGreatDoorZFault
import Derived.Deep.RegionHeld3
import Derived.Deep.RegionHeld2
set_option linter.unusedVariables false
set_option linter.unusedSimpArgs false
namespace Go.Proofs.YtleenphlgbklmabGreatDoor
open Go.RowKit

/-- the map of what names stand for: a list of pairs, in the order in which they came. -/
def kAt (kv : List (ByteArray × ByteArray)) (j : Nat) : ByteArray × ByteArray := kv.getD j ({ data := #[] }, { data := #[] })
def tEnt (kv : List (ByteArray × ByteArray)) (j : Nat) : MapEntry := { key := .string (kAt kv j).1, val := .agg #[.string (kAt kv j).2], born := j }
def tEs (kv : List (ByteArray × ByteArray)) : Array MapEntry := ((List.range kv.length).map (tEnt kv)).toArray
structure SM (w : World) (mb : Nat) (kv : List (ByteArray × ByteArray)) : Prop where
  mp : w.heap[mb]? = some (.map (tEs kv) kv.length)
  nd : (kv.map Prod.fst).Nodup
theorem tEs_snoc (kv : List (ByteArray × ByteArray)) (nm x : ByteArray) : (tEs kv).push { key := .string nm, val := .agg #[.string x], born := kv.length } = tEs (kv ++ [(nm, x)]) := by
  unfold tEs
  rw [List.length_append, List.length_singleton, List.range_succ, List.map_append]
  have e1 : (List.range kv.length).map (tEnt kv) = (List.range kv.length).map (tEnt (kv ++ [(nm, x)])) := by
    apply List.map_congr_left
    intro j hj
    have hj : j < kv.length := List.mem_range.1 hj
    simp [tEnt, kAt, List.getD, List.getElem?_append_left hj]
  have e2 : tEnt (kv ++ [(nm, x)]) kv.length = { key := .string nm, val := .agg #[.string x], born := kv.length } := by
    simp [tEnt, kAt, List.getD]
  rw [e1]
  simp [e2]
theorem tEs_get (kv : List (ByteArray × ByteArray)) (j : Nat) : (tEs kv).toList[j]? = if j < kv.length then some (tEnt kv j) else none := by
  simp only [tEs]
  by_cases h : j < kv.length
  · simp [h]
  · simp [h]
theorem find_ts (kv : List (ByteArray × ByteArray)) (nm : ByteArray) (hn : (kv.map Prod.fst).Nodup) : Instr.findNow .string (.string nm) (tEs kv).toList 0 = some ((kv.findIdx? (fun x => sameS x.1 nm)).map fun j => (j, .agg #[.string (kAt kv j).2])) := by
  have hk : MapKept.IsKey .string (.string nm) := by simp [MapKept.IsKey]
  have hall : ∀ x, x ∈ (tEs kv).toList → MapKept.IsKey .string x.key := fun x hx => by
    simp only [tEs, List.mem_map] at hx
    obtain ⟨j, _, rfl⟩ := hx
    simp [tEnt, MapKept.IsKey]
  have gd : ∀ j (h : j < kv.length), kAt kv j = kv[j] := fun j h => by simp [kAt, List.getD, h]
  rcases MapKept.findNow_spec hk (tEs kv).toList 0 hall with ⟨h1, h2⟩ | ⟨j, e, h1, h2, h3⟩
  · have : kv.findIdx? (fun x => sameS x.1 nm) = none := by
      rw [List.findIdx?_eq_none_iff]
      intro x hx
      obtain ⟨j, hj, rfl⟩ := List.getElem_of_mem hx
      rw [Bool.eq_false_iff]
      intro q
      have q := (sameS_iff _ _).1 q
      have hm : tEnt kv j ∈ (tEs kv).toList := by
        simp only [tEs, List.mem_map]
        exact ⟨j, by simpa using hj, rfl⟩
      refine h2 _ hm ?_
      simp only [tEnt]
      rw [gd j hj, q]
    rw [h1, this]
    rfl
  · rw [tEs_get] at h2
    by_cases hj : j < kv.length
    · rw [if_pos hj] at h2
      obtain rfl := Option.some.inj h2
      have q : kv[j].1 = nm := by
        simp only [tEnt] at h3
        rw [gd j hj] at h3
        injection h3
      have : kv.findIdx? (fun x => sameS x.1 nm) = some j := by
        rw [List.findIdx?_eq_some_iff_getElem]
        refine ⟨hj, (sameS_iff _ _).2 q, ?_⟩
        intro i hi z
        have z := (sameS_iff _ _).1 z
        have := (List.pairwise_iff_getElem.1 hn) i j (by simp; omega) (by simpa using hj) hi
        simp at this
        exact this (z.trans q.symm)
      rw [h1, this]
      simp [tEnt]
    · rw [if_neg hj] at h2
      cases h2
theorem Tryz.zeroTyped (w : World) : (zeroValue 68).run Tryz.prog w = .ok (.agg #[.string { data := #[] }]) w := by kernel_rfl
theorem run_tlook (M : TypeId) (hM : Tryz.prog.underlying M = some (.map 9 68)) (w : World) (mb : Nat) (kv : List (ByteArray × ByteArray)) (nm : ByteArray) (h : SM w mb kv) :
    (Instr.lookup M (.map (some mb)) (.string nm) true).run Tryz.prog w = .ok (match kv.findIdx? (fun x => sameS x.1 nm) with | some j => .tuple #[.agg #[.string (kAt kv j).2], .bool true] | none => .tuple #[.agg #[.string { data := #[] }], .bool false]) w := by
  have hf := find_ts kv nm h.nd
  have hc : ∀ e, (Instr.checkKey e 10000 9 (.string nm)).run Tryz.prog w = .ok () w := fun e => MapKept.run_checkKey Tryz.underlying9 (by simp [MapKept.IsKey]) e 9999
  have hz := Tryz.zeroTyped w
  simp only [Instr.lookup, Sem.run_bind, run_underlying hM, MapKept.run_getObj_map h.mp, Result.andThen, Sem.run_pure, hc, MapKept.run_findKey Tryz.underlying9 hf]
  cases kv.findIdx? (fun x => sameS x.1 nm) with
  | none => simp [hz, Result.andThen]
  | some j => simp
theorem run_tlook1 (M : TypeId) (hM : Tryz.prog.underlying M = some (.map 9 68)) (w : World) (mb : Nat) (kv : List (ByteArray × ByteArray)) (nm : ByteArray) (h : SM w mb kv) :
    (Instr.lookup M (.map (some mb)) (.string nm) false).run Tryz.prog w = .ok (match kv.findIdx? (fun x => sameS x.1 nm) with | some j => .agg #[.string (kAt kv j).2] | none => .agg #[.string { data := #[] }]) w := by
  have hf := find_ts kv nm h.nd
  have hc : ∀ e, (Instr.checkKey e 10000 9 (.string nm)).run Tryz.prog w = .ok () w := fun e => MapKept.run_checkKey Tryz.underlying9 (by simp [MapKept.IsKey]) e 9999
  have hz := Tryz.zeroTyped w
  simp only [Instr.lookup, Sem.run_bind, run_underlying hM, MapKept.run_getObj_map h.mp, Result.andThen, Sem.run_pure, hc, MapKept.run_findKey Tryz.underlying9 hf]
  cases kv.findIdx? (fun x => sameS x.1 nm) with
  | none => simp [hz, Result.andThen]
  | some j => simp
theorem run_tput (M : TypeId) (hM : Tryz.prog.underlying M = some (.map 9 68)) (w : World) (mb : Nat) (kv : List (ByteArray × ByteArray)) (nm x : ByteArray) (h : SM w mb kv) (hj : kv.findIdx? (fun x => sameS x.1 nm) = none) :
    (Instr.mapUpdate M (.map (some mb)) (.string nm) (.agg #[.string x])).run Tryz.prog w = .ok () (mapSet w mb (.map (tEs (kv ++ [(nm, x)])) (kv.length + 1))) := by
  have hf := find_ts kv nm h.nd
  rw [hj] at hf
  have hf : Instr.findNow .string (.string nm) (tEs kv).toList 0 = some none := hf
  have hc : (Instr.checkKey false 10000 9 (.string nm)).run Tryz.prog w = .ok () w := MapKept.run_checkKey Tryz.underlying9 (by simp [MapKept.IsKey]) false 9999
  rw [← tEs_snoc kv]
  simp [mapSet, Instr.mapUpdate, run_underlying hM, MapKept.run_getObj_map h.mp, hc, MapKept.run_findKey Tryz.underlying9 hf, MapKept.run_setObj_map _ h.mp, Result.andThen]
theorem SM.put {w : World} {mb : Nat} {kv : List (ByteArray × ByteArray)} (h : SM w mb kv) (nm x : ByteArray) (hj : kv.findIdx? (fun x => sameS x.1 nm) = none) : SM (mapSet w mb (.map (tEs (kv ++ [(nm, x)])) (kv.length + 1))) mb (kv ++ [(nm, x)]) := by
  refine ⟨?_, ?_⟩
  · rw [mapSet_same _ _ _ (lt_of_block h.mp)]
    simp
  · rw [List.map_append, List.nodup_append]
    refine ⟨h.nd, by simp, ?_⟩
    intro a ha b hb
    simp at hb
    subst hb
    rw [List.findIdx?_eq_none_iff] at hj
    obtain ⟨y, hy, rfl⟩ := List.mem_map.1 ha
    intro z
    have := hj y hy
    rw [Bool.eq_false_iff] at this
    exact this ((sameS_iff _ _).2 z)
end Go.Proofs.YtleenphlgbklmabGreatDoor

namespace Go.Proofs.YtleenphlgbklmabGreatDoor
open Go.RowKit

/-- a map of names to types. -/
def gE : List (ByteArray × Value) → Nat → List MapEntry
  | [], _ => []
  | e :: l, i => { key := .string e.1, val := e.2, born := i } :: gE l (i + 1)
theorem gE_snoc (l : List (ByteArray × Value)) (e : ByteArray × Value) : ∀ i, gE (l ++ [e]) i = gE l i ++ [{ key := .string e.1, val := e.2, born := i + l.length }] := by
  induction l with
  | nil => intro i; simp [gE]
  | cons c l ih =>
    intro i
    have e : i + 1 + l.length = i + (l.length + 1) := by omega
    simp [gE, ih, e]
def askS (n : ByteArray) : List (ByteArray × Value) → Nat → Option (Nat × Value)
  | [], _ => none
  | e :: l, i => if bq n e.1 then some (i, e.2) else askS n l (i + 1)
theorem bq_eq (a b : ByteArray) : bq a b = decide (a = b) := by
  by_cases h : a = b
  · simp [h, bq_iff.2 rfl]
  · have : bq a b = false := by rw [Bool.eq_false_iff]; exact fun z => h (bq_iff.1 z)
    simp [h, this]
theorem ba_beq (a b : ByteArray) : (a == b) = decide (a = b) := by
  have h : (a == b) = (a.data == b.data) := rfl
  rw [h]
  by_cases e : a = b
  · subst e; simp
  · have : a.data ≠ b.data := fun z => e (ByteArray.ext z)
    simp [e, this]
theorem find_gs (n : ByteArray) (l : List (ByteArray × Value)) : ∀ i, Instr.findNow .string (.string n) (gE l i) i = some (askS n l i) := by
  induction l with
  | nil => intro i; rfl
  | cons c l ih =>
    intro i
    have h := ih (i + 1)
    by_cases e : n = c.1
    · have e1 : (n == c.1) = true := by rw [ba_beq]; simp [e]
      simp only [gE, Instr.findNow, Instr.sameNow, askS, bq_eq, e1]
      simp [e]
    · have e1 : (n == c.1) = false := by rw [ba_beq]; simp [e]
      simp only [gE, Instr.findNow, Instr.sameNow, askS, bq_eq, e1, h]
      simp [e]
def GB (ad : List Nat) : Gv → List (ByteArray × Value) → Prop
  | [], [] => True
  | e :: g, c :: l => e.1 = c.1 ∧ RV ad e.2 c.2 ∧ GB ad g l
  | _, _ => False
theorem GB.up {ad : List Nat} (u : List Nat) : ∀ {g : Gv} {l : List (ByteArray × Value)}, GB ad g l → GB (ad ++ u) g l
  | [], [], _ => trivial
  | e :: g, c :: l, h => ⟨h.1, h.2.1.up u, h.2.2.up u⟩
  | [], _ :: _, h => h.elim
  | _ :: _, [], h => h.elim
theorem GB.snoc {ad : List Nat} {n : ByteArray} {r : TR} {v : Value} (hv : RV ad r v) : ∀ {g : Gv} {l : List (ByteArray × Value)}, GB ad g l → GB ad (g ++ [(n, r)]) (l ++ [(n, v)])
  | [], [], _ => ⟨rfl, hv, trivial⟩
  | e :: g, c :: l, h => ⟨h.1, h.2.1, GB.snoc hv h.2.2⟩
  | [], _ :: _, h => h.elim
  | _ :: _, [], h => h.elim
theorem GB.look {ad : List Nat} {n : ByteArray} : ∀ {g : Gv} {l : List (ByteArray × Value)} (k : Nat), GB ad g l → (∀ r, findG n g = some r → ∃ p v, askS n l k = some (p, v) ∧ RV ad r v) ∧ (findG n g = none → askS n l k = none)
  | [], [], k, _ => ⟨fun r h => by simp [findG] at h, fun _ => rfl⟩
  | e :: g, c :: l, k, h => by
    have ih := GB.look (n := n) (k + 1) h.2.2
    simp only [findG, askS, h.1]
    split
    · exact ⟨fun r hr => by
        simp only [Option.some.injEq] at hr
        subst hr
        exact ⟨_, _, rfl, h.2.1⟩, fun z => by simp at z⟩
    · exact ih
  | [], _ :: _, _, h => h.elim
  | _ :: _, [], _, h => h.elim
/-- the given names lie in memory. -/
def GM (w : World) (gm : Nat) (ad : List Nat) (g : Gv) : Prop := ∃ l, w.heap[gm]? = some (.map (gE l 0).toArray l.length) ∧ GB ad g l
theorem GM.kt {w w' : World} {gm : Nat} {ad ad2 : List Nat} {g : Gv} {S : Nat → Prop} (h : GM w gm ad g) (k : Kt ad2 S w w') (hS : ¬ S gm) : GM w' gm ad g := by
  obtain ⟨l, h1, h2⟩ := h
  exact ⟨l, k.blk _ _ h1 hS (by rintro ⟨cs, e, f, he, _⟩; cases he), h2⟩
theorem GM.up {w : World} {gm : Nat} {ad : List Nat} {g : Gv} (h : GM w gm ad g) (u : List Nat) : GM w gm (ad ++ u) g := by
  obtain ⟨l, h1, h2⟩ := h
  exact ⟨l, h1, h2.up u⟩
theorem look_gm {w : World} {gm : Nat} {ad : List Nat} {g : Gv} (h : GM w gm ad g) (n : ByteArray) :
    (∀ r, findG n g = some r → ∃ v, RV ad r v ∧ (Instr.lookup 166 (.map (some gm)) (.string n) true).run Tryz.prog w = .ok (.tuple #[v, .bool true]) w) ∧ (findG n g = none → (Instr.lookup 166 (.map (some gm)) (.string n) true).run Tryz.prog w = .ok (.tuple #[.nilIface, .bool false]) w) := by
  obtain ⟨l, h1, h2⟩ := h
  have hf := find_gs n l 0
  have hc : ∀ e, (Instr.checkKey e 10000 9 (.string n)).run Tryz.prog w = .ok () w := fun e => MapKept.run_checkKey Tryz.underlying9 (by simp [MapKept.IsKey]) e 9999
  have hz : (zeroValue 77).run Tryz.prog w = .ok .nilIface w := by kernel_rfl
  have key : (Instr.lookup 166 (.map (some gm)) (.string n) true).run Tryz.prog w = .ok (match askS n l 0 with | some x => .tuple #[x.2, .bool true] | none => .tuple #[.nilIface, .bool false]) w := by
    simp only [Instr.lookup, Sem.run_bind, run_underlying Tryz.underlying166, MapKept.run_getObj_map h1, Result.andThen, Sem.run_pure, hc, MapKept.run_findKey Tryz.underlying9 hf]
    cases askS n l 0 with
    | none => simp [hz, Result.andThen]
    | some j => simp
  obtain ⟨m1, m2⟩ := h2.look (n := n) 0
  refine ⟨fun r hr => ?_, fun hn => ?_⟩
  · obtain ⟨p, v, e1, e2⟩ := m1 r hr
    rw [e1] at key
    exact ⟨v, e2, key⟩
  · rw [m2 hn] at key
    exact key
/-- the names that were bound, the innermost first. -/
def CH (w : World) (R : TR → Value → Prop) : List Bd → Value → Prop
  | [], v => v = .pointer none
  | b :: bs, v => ∃ q tv nx, v = .pointer (some ⟨q, 0, none⟩) ∧ w.heap[q]? = some (.cells #[.string b.name, tv, .bool b.par, nx] 287 (0, 0)) ∧ R b.ty tv ∧ CH w R bs nx
theorem CH.keep {w w' : World} {R : TR → Value → Prop} (hk : ∀ (q : Nat) (cs : Array Value) (f : Nat × Nat), w.heap[q]? = some (.cells cs 287 f) → w'.heap[q]? = some (.cells cs 287 f)) : ∀ {l : List Bd} {v : Value}, CH w R l v → CH w' R l v
  | [], _, h => h
  | b :: bs, v, ⟨q, tv, nx, h1, h2, h3, h4⟩ => ⟨q, tv, nx, h1, hk _ _ _ h2, h3, CH.keep hk h4⟩
theorem CH.mono {w : World} {R R' : TR → Value → Prop} (hR : ∀ r v, R r v → R' r v) : ∀ {l : List Bd} {v : Value}, CH w R l v → CH w R' l v
  | [], _, h => h
  | b :: bs, v, ⟨q, tv, nx, h1, h2, h3, h4⟩ => ⟨q, tv, nx, h1, h2, hR _ _ h3, CH.mono hR h4⟩
theorem Kt.binds {w w' : World} {ad : List Nat} {S : Nat → Prop} (h : Kt ad S w w') {g : Nat} {cs : Array Value} {f : Nat × Nat} (hg : w.heap[g]? = some (.cells cs 287 f)) (hn : ¬ S g) : w'.heap[g]? = some (.cells cs 287 f) := h.blk g _ hg hn (by
  rintro ⟨cs', e, f', he, ht⟩
  simp only [Obj.cells.injEq] at he
  obtain ⟨_, rfl, _⟩ := he
  rcases ht with e | e | e | e <;> cases e)
theorem CH.ptr {w : World} {R : TR → Value → Prop} {l : List Bd} {v : Value} (h : CH w R l v) : ∃ p, v = .pointer p := by
  cases l with
  | nil => exact ⟨none, h⟩
  | cons b l => obtain ⟨q, tv, nx, h1, _⟩ := h; exact ⟨_, h1⟩
set_option maxRecDepth 20000 in
set_option maxHeartbeats 1000000 in
theorem withp_any (w : World) (p : Option Addr) (gm : Nat) (n : ByteArray) (T : TypeId) (u : Value) : Calls Tryz.prog 143 #[.agg #[.pointer p, .map (some gm)], .string n, .iface T u] w fun e w' => ∃ q, e = .returned (.agg #[.pointer (some ⟨q, 0, none⟩), .map (some gm)]) ∧ w'.heap[q]? = some (.cells #[.string n, .iface T u, .bool true, .pointer p] 287 (0, 0)) ∧ Kept w w' := by
  go_enter Tryz.func143, Tryz.ntmps143
  go_wp2_with fail
  generalize hW : w.alloc (.cells #[.pointer p, .map (some gm)] 168) = W
  have hk1 : Kept w W := by rw [← hW]; exact Kept.alloc _ _
  have hs1 : W.heap.size = w.heap.size + 1 := by rw [← hW]; simp
  generalize hV : W.alloc (.cells #[.pointer (some ⟨w.heap.size + 1 + 1, 0, none⟩), .map (some gm)] 168) = V
  have hk2 : Kept W V := by rw [← hV]; exact Kept.alloc _ _
  have hb2 : V.heap[w.heap.size + 1]? = some (.cells #[.pointer (some ⟨w.heap.size + 1 + 1, 0, none⟩), .map (some gm)] 168 (0, 0)) := by rw [← hV, ← hs1]; exact heap_alloc_new _ _
  have hs2 : V.heap.size = w.heap.size + 1 + 1 := by rw [← hV, ← hs1]; simp
  have hk3 : Kept V (V.alloc (.cells #[.string n, .iface T u, .bool true, .pointer p] 287)) := Kept.alloc _ _
  have hb3 := heap_alloc_new V (.cells #[.string n, .iface T u, .bool true, .pointer p] 287)
  rw [hs2] at hb3
  have hb2 := hk3.blk hb2
  generalize V.alloc (.cells #[.string n, .iface T u, .bool true, .pointer p] 287) = Z at *
  have d0 : Z.cell? ⟨w.heap.size + 1, 0, none⟩ = some (.pointer (some ⟨w.heap.size + 1 + 1, 0, none⟩)) := by simp [World.cell?, hb2]
  have d1 : Z.cell? ⟨w.heap.size + 1, 1, none⟩ = some (.map (some gm)) := by simp [World.cell?, hb2]
  exact bodyPost_ret (v := .agg #[.pointer (some ⟨w.heap.size + 1 + 1, 0, none⟩), .map (some gm)]) (by simp [results, Tryz.results143, go_sem, d0, d1]) rfl ⟨_, rfl, hb3, (hk1.trans hk2).trans hk3⟩
set_option maxRecDepth 20000 in
set_option maxHeartbeats 1000000 in
theorem with_any (w : World) (p : Option Addr) (gm : Nat) (n : ByteArray) (T : TypeId) (u : Value) : Calls Tryz.prog 104 #[.agg #[.pointer p, .map (some gm)], .string n, .iface T u] w fun e w' => ∃ q, e = .returned (.agg #[.pointer (some ⟨q, 0, none⟩), .map (some gm)]) ∧ w'.heap[q]? = some (.cells #[.string n, .iface T u, .bool false, .pointer p] 287 (0, 0)) ∧ Kept w w' := by
  go_enter Tryz.func104, Tryz.ntmps104
  go_wp2_with fail
  generalize hW : w.alloc (.cells #[.pointer p, .map (some gm)] 168) = W
  have hk1 : Kept w W := by rw [← hW]; exact Kept.alloc _ _
  have hs1 : W.heap.size = w.heap.size + 1 := by rw [← hW]; simp
  generalize hV : W.alloc (.cells #[.pointer (some ⟨w.heap.size + 1 + 1, 0, none⟩), .map (some gm)] 168) = V
  have hk2 : Kept W V := by rw [← hV]; exact Kept.alloc _ _
  have hb2 : V.heap[w.heap.size + 1]? = some (.cells #[.pointer (some ⟨w.heap.size + 1 + 1, 0, none⟩), .map (some gm)] 168 (0, 0)) := by rw [← hV, ← hs1]; exact heap_alloc_new _ _
  have hs2 : V.heap.size = w.heap.size + 1 + 1 := by rw [← hV, ← hs1]; simp
  have hk3 : Kept V (V.alloc (.cells #[.string n, .iface T u, .bool false, .pointer p] 287)) := Kept.alloc _ _
  have hb3 := heap_alloc_new V (.cells #[.string n, .iface T u, .bool false, .pointer p] 287)
  rw [hs2] at hb3
  have hb2 := hk3.blk hb2
  generalize V.alloc (.cells #[.string n, .iface T u, .bool false, .pointer p] 287) = Z at *
  have d0 : Z.cell? ⟨w.heap.size + 1, 0, none⟩ = some (.pointer (some ⟨w.heap.size + 1 + 1, 0, none⟩)) := by simp [World.cell?, hb2]
  have d1 : Z.cell? ⟨w.heap.size + 1, 1, none⟩ = some (.map (some gm)) := by simp [World.cell?, hb2]
  exact bodyPost_ret (v := .agg #[.pointer (some ⟨w.heap.size + 1 + 1, 0, none⟩), .map (some gm)]) (by simp [results, Tryz.results104, go_sem, d0, d1]) rfl ⟨_, rfl, hb3, (hk1.trans hk2).trans hk3⟩
theorem tl_beq (a b : ByteArray) : (a.toList == b.toList) = bq b a := by
  rw [ByteArray.toList_eq, ByteArray.toList_eq, Bool.eq_iff_iff, bq_iff, beq_iff_eq]
  exact ⟨fun h => (ByteArray.ext (Array.toList_inj.1 h)).symm, fun h => by rw [h]⟩
def findO (n : ByteArray) : List Bd → Option TR
  | [] => none
  | b :: l => if bq n b.name then some b.ty else findO n l
theorem findF_own (n : ByteArray) (gv : Gv) : ∀ l, findF n gv l = match findO n l with | some r => some r | none => findG n gv
  | [] => rfl
  | b :: l => by
    simp only [findF, findO]
    split
    · rfl
    · exact findF_own n gv l
set_option maxRecDepth 20000 in
set_option maxHeartbeats 2000000 in
theorem find_own {w : World} {R : TR → Value → Prop} {own : List Bd} {p : Option Addr} {gm : Nat} {n : ByteArray} {x y : Value} (hC : CH w R own (.pointer p)) (hL : ∀ W, Kept w W → (Instr.lookup 166 (.map (some gm)) (.string n) true).run Tryz.prog W = .ok (.tuple #[x, y]) W) :
    Calls Tryz.prog 103 #[.agg #[.pointer p, .map (some gm)], .string n] w fun e w' => Kept w w' ∧ (∀ r, findO n own = some r → ∃ v, e = .returned (.tuple #[v, .bool true]) ∧ R r v) ∧ (findO n own = none → e = .returned (.tuple #[x, y])) := by
  have hka : Kept w (w.alloc (.cells #[.pointer p, .map (some gm)] 168)) := Kept.alloc _ _
  have hn0 := heap_alloc_new w (.cells #[.pointer p, .map (some gm)] 168)
  go_enter Tryz.func103, Tryz.ntmps103
  go_wp2_with fail
  generalize w.alloc (.cells #[.pointer p, .map (some gm)] 168) = W at *
  have HC : Hid (CH W R own (.pointer p)) := hC.keep (fun q cs f h => hka.blk h)
  have hl := hL _ hka
  have hn1 : W.cell? ⟨w.heap.size, 1, none⟩ = some (.map (some gm)) := by simp [World.cell?, hn0]
  have HKA : Hid _ := hka
  clear hC hL hka hn0
  go_loopg [6] own.length (fun k v wr => ∃ (l : List Bd) (pp : Option Addr), l.length = k ∧ v = .pointer pp ∧ wr = W ∧ Hid (CH W R l (.pointer pp)) ∧ Hid (findO n l = findO n own))
  case atStart => exact ⟨own, p, rfl, rfl, rfl, HC.out, rfl⟩
  case round =>
    obtain ⟨l, pp, hlen, rfl, hw, HL, HE⟩ := hrel
    rw [hw]
    clear hw
    cases l with
    | nil =>
      have hv : Value.pointer pp = _ := HL.out
      simp only [Value.pointer.injEq] at hv
      subst hv
      have hf : findO n own = none := by rw [← HE.out]; rfl
      have HF : Hid _ := hf
      clear HL HE HC hf
      go_wp2
      refine bodyPost_ret (results_tmp2 Tryz.results103 _ _ _) rfl ?_
      refine ⟨HKA.out, fun r hr => ?_, fun _ => rfl⟩
      rw [HF.out] at hr
      cases hr
    | cons b l =>
      obtain ⟨q, tv, nx, hv, hb, hR, hC2⟩ := HL.out
      simp only [Value.pointer.injEq] at hv
      subst hv
      have c0 : W.cell? ⟨q, 0, none⟩ = some (.string b.name) := by simp [World.cell?, hb]
      have c1 : W.cell? ⟨q, 1, none⟩ = some tv := by simp [World.cell?, hb]
      have c3 : W.cell? ⟨q, 3, none⟩ = some nx := by simp [World.cell?, hb]
      have HR : Hid _ := hR
      have HC2 : Hid _ := hC2
      obtain ⟨pn, rfl⟩ := hC2.ptr
      clear hb hR hC2 HL HC
      have hlen2 : l.length < gk := by simp at hlen; omega
      clear hlen
      cases hq : bq n b.name with
      | true =>
        have hf : findO n own = some b.ty := by
          rw [← HE.out]
          simp [findO, hq]
        have HF : Hid _ := hf
        have hs := tl_beq b.name n
        rw [hq] at hs
        clear HE hf hq
        go_wp2
        refine bodyPost_ret (results_tmp2 Tryz.results103 _ _ _) rfl ?_
        refine ⟨HKA.out, fun r hr => ?_, fun z => by rw [HF.out] at z; cases z⟩
        rw [HF.out] at hr
        simp only [Option.some.injEq] at hr
        subst hr
        exact ⟨tv, rfl, HR.out⟩
      | false =>
        have hf : findO n l = findO n own := by
          rw [← HE.out]
          simp [findO, hq]
        have HF : Hid _ := hf
        have hs := tl_beq b.name n
        rw [hq] at hs
        clear HE hf hq
        go_wp2
        go_roundg l.length
        case measure => exact hlen2
        case rel => exact ⟨l, pn, rfl, rfl, rfl, HC2.out, HF.out⟩
set_option maxRecDepth 20000 in
set_option maxHeartbeats 2000000 in
theorem bound_sx {w : World} {ad : List Nat} {σ : St} {own : List Bd} {p : Option Addr} {gm : Nat} {bd : List TR} (hB : boundF σ own [] = some bd) (hs : SX w ad σ) (hC : CH w (RV ad) own (.pointer p)) :
    Calls Tryz.prog 145 #[.agg #[.pointer p, .map (some gm)]] w fun e w' => ∃ mb, e = .returned (.map (some mb)) ∧ TMp w' mb ad (pvP bd) ∧ SX w' ad σ ∧ w.heap.size ≤ mb ∧ Kt ad (fun _ => False) w w' := by
  have m1 := Tryz.mkPS (w.alloc (.cells #[.pointer p, .map (some gm)] 168))
  have hka : Kept w (w.alloc (.cells #[.pointer p, .map (some gm)] 168)) := Kept.alloc _ _
  have hsz : (w.alloc (.cells #[.pointer p, .map (some gm)] 168)).heap.size = w.heap.size + 1 := by simp
  go_enter Tryz.func145, Tryz.ntmps145
  go_wp2_with fail
  generalize w.alloc (.cells #[.pointer p, .map (some gm)] 168) = W at *
  have hkb : Kept w (W.alloc (.map #[] 0)) := hka.trans (Kept.alloc _ _)
  have HT : Hid _ := TMp.none W ad
  rw [hsz] at HT
  generalize W.alloc (.map #[] 0) = V at *
  have HC : Hid (CH V (RV ad) own (.pointer p)) := hC.keep (fun q cs f h => hkb.blk h)
  have HS : Hid _ := hs.kept hkb
  have HK : Hid _ := hkb
  have HB : Hid _ := hB
  clear hC hs hka hkb m1 hsz hB
  go_loopg [4] own.length (fun k v wr => ∃ (l : List Bd) (pp : Option Addr) (bl : List TR), l.length = k ∧ v = .pointer pp ∧ Hid (CH wr (RV ad) l (.pointer pp)) ∧ Hid (boundF σ l bl = some bd) ∧ Hid (TMp wr (w.heap.size + 1) ad (pvP bl)) ∧ Hid (SX wr ad σ) ∧ Hid (Kt ad (fun q => q = w.heap.size + 1) w wr))
  case atStart => exact ⟨own, p, [], rfl, rfl, HC.out, HB.out, HT.out, HS.out, Kt.of_kept HK.out⟩
  case round =>
    clear HC HB HT HS HK
    obtain ⟨l, pp, bl, hlen, rfl, HC, HB, HT, HS, HK⟩ := hrel
    cases l with
    | nil =>
      have hv : Value.pointer pp = _ := HC.out
      simp only [Value.pointer.injEq] at hv
      subst hv
      have hb := HB.out
      simp only [boundF, Option.some.injEq] at hb
      subst hb
      clear HB HC
      go_wp2
      go_ret
      exact ⟨_, rfl, HT.out, HS.out, by omega, Kt.drop (Kept.refl w) HK.out (by omega)⟩
    | cons b l =>
      obtain ⟨q, tv, nx, hv, hb, hR, hC2⟩ := HC.out
      simp only [Value.pointer.injEq] at hv
      subst hv
      have c1 : wr.cell? ⟨q, 1, none⟩ = some tv := by simp [World.cell?, hb]
      have c2 : wr.cell? ⟨q, 2, none⟩ = some (.bool b.par) := by simp [World.cell?, hb]
      have HR : Hid _ := hR
      have HC2 : Hid _ := hC2
      obtain ⟨pn, rfl⟩ := hC2.ptr
      have hlen2 : l.length < gk := by simp at hlen; omega
      have HBK : Hid _ := hb
      have hbb := HB.out
      simp only [boundF] at hbb
      obtain ⟨T, u, rfl⟩ := hR.iface
      clear hR hC2 hlen HC HB
      cases hp : b.par with
      | true =>
        rw [hp] at hbb c2
        simp only [if_true, Option.bind_eq_some_iff] at hbb
        obtain ⟨l1, h1, h2⟩ := hbb
        have HA : Hid _ := add_sx 500 σ b.ty bl l1 h1 wr ad _ (w.heap.size + 1) HS.out HR.out HT.out
        have HB2 : Hid _ := h2
        have HTM : Hid _ := HT.out.mp
        have HQ : Hid (¬ q = w.heap.size + 1) := fun z => by
          have := HTM.out
          rw [← z, HBK.out] at this
          cases this
        clear hb h1 h2 hp HT
        go_wp2_with fail
        refine Calls.mono HA.out ?_
        rintro e w2 ⟨rfl, hs2, ht2, hk2⟩
        have hb2 := hk2.binds HBK.out HQ.out
        have c3 : w2.cell? ⟨q, 3, none⟩ = some (.pointer pn) := by simp [World.cell?, hb2]
        have HCC : Hid (CH w2 (RV ad) l (.pointer pn)) := CH.keep (fun q' cs f h => hk2.binds h (fun z => by
          have z : q' = w.heap.size + 1 := z
          have := HTM.out
          rw [← z, h] at this
          cases this)) HC2.out
        have HS2 : Hid _ := hs2
        have HT2 : Hid _ := ht2
        have HK2 : Hid _ := HK.out.trans hk2
        clear hs2 ht2 hk2 hb2 HA
        go_wp2
        go_roundg l.length
        case measure => exact hlen2
        case rel => exact ⟨l, pn, l1, rfl, rfl, HCC.out, HB2.out, HT2.out, HS2.out, HK2.out⟩
      | false =>
        rw [hp] at hbb c2
        have c3 : wr.cell? ⟨q, 3, none⟩ = some (.pointer pn) := by simp [World.cell?, hb]
        simp only [Bool.false_eq_true, if_false] at hbb
        have HB2 : Hid _ := hbb
        clear hb hbb hp
        go_wp2
        go_roundg l.length
        case measure => exact hlen2
        case rel => exact ⟨l, pn, bl, rfl, rfl, HC2.out, HB2.out, HT.out, HS.out, HK.out⟩
end Go.Proofs.YtleenphlgbklmabGreatDoor

namespace Go.Proofs.YtleenphlgbklmabGreatDoor
open Go.RowKit

section
variable {ω : Type} (tl : List ByteArray → Nat → List TR → St → ω → Option (Oc Unit × ω))
/-- the types of the values, one after another. -/
def valsF (typ : X → St → ω → Option (Oc (TR × St) × ω)) : List X → St → ω → Option (Oc (List TR × St) × ω)
  | [], σ, o => some (.ok ([], σ), o)
  | x :: xs, σ, o => (typ x σ o).bind fun r => match r with
    | (.er j, o) => some (.er j, o)
    | (.ok p, o) => (valsF typ xs p.2 o).bind fun r => match r with
      | (.er j, o) => some (.er j, o)
      | (.ok q, o) => some (.ok (p.1 :: q.1, q.2), o)
/-- the rounds of a group: so many may follow. -/
def rndF (typ : X → List Bd → St → ω → Option (Oc (TR × St) × ω)) (names : List ByteArray) (values : List X) (own : List Bd) (fuel : Nat) : Nat → Nat → List TR → St → ω → Option (Oc (List TR × St) × ω)
  | 0, _, _, _, _ => none
  | k + 1, round, ahead, σ, o =>
    (valsF (fun x => typ x (grpF names ahead own)) values σ o).bind fun r => match r with
    | (.er j, o) => some (.er j, o)
    | (.ok p, o) => (boundF p.2 own []).bind fun bd => (gensF p.2 bd p.1).bind fun σ1 => (tl names round p.1 σ1 o).bind fun r => match r with
      | (.er j, o) => some (.er j, o)
      | (.ok _, o) => (samesF σ1 ahead p.1).bind fun b => if b then some (.ok (p.1, σ1), o) else if round == fuel then some (.er 5, o) else rndF typ names values own fuel k (round + 1) p.1 σ1 o
def nameF (gv : Gv) (n : ByteArray) (own : List Bd) (σ : St) : Option (Oc (TR × St)) :=
  (findF n gv own).bind fun s => (bigF σ s).bind fun b => if b then some (.er 4) else (instF 500 σ s []).bind fun p => some (.ok (p.1, p.2.1))
def funF (f : X → List Bd → St → ω → Option (Oc (TR × St) × ω)) (m : ByteArray) (b : X) (own : List Bd) (σ : St) (o : ω) : Option (Oc (TR × St) × ω) :=
  (f b (⟨m, .nd .vr σ.length, true⟩ :: own) (σ ++ [newV]) o).bind fun r => match r with
  | (.er j, o) => some (.er j, o)
  | (.ok p, o) => some (.ok (.nd .ar p.2.length, p.2 ++ [⟨.ar (.nd .vr σ.length) p.1, none⟩]), o)
def ifF (f : X → List Bd → St → ω → Option (Oc (TR × St) × ω)) (x y z : X) (own : List Bd) (σ : St) (o : ω) : Option (Oc (TR × St) × ω) :=
  (f x own σ o).bind fun r => match r with
  | (.er j, o) => some (.er j, o)
  | (.ok p, o) => (eqF 500 p.2 p.1 .bool).bind fun q => match q with
    | .er j => some (.er j, o)
    | .ok σ1 => (f y own σ1 o).bind fun r => match r with
      | (.er j, o) => some (.er j, o)
      | (.ok p, o) => (f z own p.2 o).bind fun r => match r with
        | (.er j, o) => some (.er j, o)
        | (.ok p2, o) => (eqF 500 p2.2 p.1 p2.1).bind fun q => match q with
          | .er j => some (.er j, o)
          | .ok σ2 => some (.ok (p.1, σ2), o)
def letF (f : X → List Bd → St → ω → Option (Oc (TR × St) × ω)) (m : ByteArray) (x y : X) (own : List Bd) (σ : St) (o : ω) : Option (Oc (TR × St) × ω) :=
  (f x own σ o).bind fun r => match r with
  | (.er j, o) => some (.er j, o)
  | (.ok p, o) => (boundF p.2 own []).bind fun bd => (genF 500 p.2 p.1 bd).bind fun σ1 => f y (⟨m, p.1, false⟩ :: own) σ1 o
def appF (f : X → List Bd → St → ω → Option (Oc (TR × St) × ω)) (x y : X) (own : List Bd) (σ : St) (o : ω) : Option (Oc (TR × St) × ω) :=
  (f x own σ o).bind fun r => match r with
  | (.er j, o) => some (.er j, o)
  | (.ok p, o) => (f y own (p.2 ++ [newV]) o).bind fun r => match r with
    | (.er j, o) => some (.er j, o)
    | (.ok q, o) => (eqF 500 (q.2 ++ [⟨.ar q.1 (.nd .vr p.2.length), none⟩]) p.1 (.nd .ar q.2.length)).bind fun e => match e with
      | .er j => some (.er j, o)
      | .ok σ1 => some (.ok (.nd .vr p.2.length, σ1), o)
def twoF (f : X → List Bd → St → ω → Option (Oc (TR × St) × ω)) (x y : X) (own : List Bd) (σ : St) (o : ω) : Option (Oc (TR × St) × ω) :=
  (f x own σ o).bind fun r => match r with
  | (.er j, o) => some (.er j, o)
  | (.ok p, o) => (f y own p.2 o).bind fun r => match r with
    | (.er j, o) => some (.er j, o)
    | (.ok q, o) => some (.ok (.nd .pr q.2.length, q.2 ++ [⟨.pr p.1 q.1, none⟩]), o)
def recF (f : X → List Bd → St → ω → Option (Oc (TR × St) × ω)) (fuel : Nat) (names : List ByteArray) (vs : List X) (y : X) (own : List Bd) (σ : St) (o : ω) : Option (Oc (TR × St) × ω) :=
  if names.length ≤ 1000000 then (rndF tl f names vs own fuel fuel 1 (anyF names.length σ).1 (anyF names.length σ).2 o).bind fun r => match r with
  | (.er j, o) => some (.er j, o)
  | (.ok p, o) => f y (grpF names p.1 own) p.2 o
  else none
/-- the type of an expression, by what it is; let rec only where rk. -/
def kndF (rk : Bool) (gv : Gv) (fuel : Nat) (f : X → List Bd → St → ω → Option (Oc (TR × St) × ω)) : X → List Bd → St → ω → Option (Oc (TR × St) × ω)
  | .mk op names kids _, own, σ, o =>
    if bq op { data := #[110, 97, 109, 101] } then match names with
      | [m] => (nameF gv m own σ).bind fun r => some (r, o)
      | _ => none
    else if bq op { data := #[110, 117, 109] } then some (.ok (.int, σ), o)
    else if bq op { data := #[102, 117, 110] } then match names, kids with
      | [m], [b] => funF f m b own σ o
      | _, _ => none
    else if bq op { data := #[105, 102] } then match kids with
      | [x, y, z] => ifF f x y z own σ o
      | _ => none
    else if bq op { data := #[108, 101, 116] } then match names, kids with
      | [m], [x, y] => letF f m x y own σ o
      | _, _ => none
    else if bq op { data := #[97, 112, 112] } then match kids with
      | [x, y] => appF f x y own σ o
      | _ => none
    else if bq op { data := #[112, 97, 105, 114] } then match kids with
      | [x, y] => twoF f x y own σ o
      | _ => none
    else if rk && bq op { data := #[114, 101, 99] } then match kids.reverse with
      | y :: vs => recF tl f fuel names vs.reverse y own σ o
      | [] => none
    else none
/-- the type of an expression. -/
def typF (rk : Bool) (gv : Gv) (fuel : Nat) : Nat → X → List Bd → St → ω → Option (Oc (TR × St) × ω)
  | 0, _, _, _, _ => none
  | n + 1, x, own, σ, o =>
    (kndF tl rk gv fuel (fun x own σ o => typF rk gv fuel n x own σ o) x own σ o).bind fun r => match r with
    | (.er j, o) => some (.er j, o)
    | (.ok p, o) => (bigF p.2 p.1).bind fun b => if b then some (.er 4, o) else some (.ok p, o)
end
/-- a type's tree; variables by their place in the store. -/
def treeF : Nat → St → TR → Option Ty
  | 0, _, _ => none
  | n + 1, σ, r => (repF 500 σ r).bind fun r0 => match r0 with
    | .int => some (.mk { data := #[105, 110, 116] } 0 [])
    | .bool => some (.mk { data := #[98, 111, 111, 108] } 0 [])
    | .nd _ i => match σ[i]? with
      | some ⟨.vr _ _, none⟩ => some (.mk { data := #[] } i [])
      | some ⟨.ls x, none⟩ => (treeF n σ x).bind fun a => some (.mk { data := #[108, 105, 115, 116] } 0 [a])
      | some ⟨.pr x y, none⟩ => (treeF n σ x).bind fun a => (treeF n σ y).bind fun c => some (.mk { data := #[112, 97, 105, 114] } 0 [a, c])
      | some ⟨.ar x y, none⟩ => (treeF n σ x).bind fun a => (treeF n σ y).bind fun c => some (.mk { data := #[102, 117, 110] } 0 [a, c])
      | _ => none
end Go.Proofs.YtleenphlgbklmabGreatDoor

namespace Go.Proofs.YtleenphlgbklmabGreatDoor
open Go.RowKit

/-- a block of the watcher's. -/
def WB (o : Obj) : Prop := ∃ cs e f, o = .cells cs e f ∧ (e = 39 ∨ e = 36)
/-- all is as it was, but for the store's types and the watcher's blocks. -/
structure Kw (B : Nat) (ad : List Nat) (w w' : World) : Prop where
  os : w'.os = w.os
  output : w'.output = w.output
  size : w.heap.size ≤ w'.heap.size
  blk : ∀ (k : Nat) (o : Obj), w.heap[k]? = some o → (WB o → k < B) → (TB o → ¬ k ∈ ad) → w'.heap[k]? = some o
theorem Kw.of {B : Nat} {ad : List Nat} {w w' : World} (h : Kt ad (fun _ => False) w w') : Kw B ad w w' := ⟨h.os, h.output, h.size, fun k o hk _ ht => h.blk0 k o hk id ht⟩
/-- what a call that types leaves. -/
structure Gk (B : Nat) (ad ad' : List Nat) (w w' : World) : Prop where
  up : ∃ u, ad' = ad ++ u ∧ ∀ q, q ∈ u → w.heap.size ≤ q
  kw : Kw B ad w w'
theorem Gk.of {B : Nat} {ad ad' : List Nat} {w w' : World} (h : Gw (fun _ => False) ad ad' w w') : Gk B ad ad' w w' := ⟨h.up, Kw.of h.kt⟩
theorem Gk.ofKt {B : Nat} {ad : List Nat} {w w' : World} (h : Kt ad (fun _ => False) w w') : Gk B ad ad w w' := Gk.of (Gw.of h)
theorem Gk.ofKw {B : Nat} {ad : List Nat} {w w' : World} (h : Kw B ad w w') : Gk B ad ad w w' := ⟨⟨[], by simp, by simp⟩, h⟩
theorem Gk.trans {B : Nat} {a b c : List Nat} {w1 w2 w3 : World} (h : Gk B a b w1 w2) (g : Gk B b c w2 w3) : Gk B a c w1 w3 := by
  obtain ⟨⟨u, rfl, hu⟩, k⟩ := h
  obtain ⟨⟨u2, rfl, hu2⟩, k2⟩ := g
  refine ⟨⟨u ++ u2, by simp, ?_⟩, ⟨k2.os.trans k.os, k2.output.trans k.output, Nat.le_trans k.size k2.size, ?_⟩⟩
  · intro q hq
    simp at hq
    rcases hq with hq | hq
    · exact hu q hq
    · exact Nat.le_trans k.size (hu2 q hq)
  · intro q o hq hw ht
    refine k2.blk q o (k.blk q o hq hw ht) hw (fun z y => ?_)
    simp at y
    rcases y with y | y
    · exact ht z y
    · have := hu q y
      have := lt_of_block hq
      omega
theorem Gk.rv {B : Nat} {a b : List Nat} {w1 w2 : World} (h : Gk B a b w1 w2) {r : TR} {v : Value} (hv : RV a r v) : RV b r v := by
  obtain ⟨⟨u, rfl, hu⟩, _⟩ := h
  exact hv.up u
theorem Gk.ga {A : Nat → Addr} {B : Nat} {a b : List Nat} {w1 w2 : World} (h : Gk B a b w1 w2) (g : GA A B a w1) : GA A B b w2 := by
  obtain ⟨⟨u, rfl, hu⟩, k⟩ := h
  have h1 : GA A B a w2 := g.low k.size (fun q hq => by
    have e : w1.heap[q]? = some (w1.heap[q]'(Nat.lt_of_lt_of_le hq g.sz)) := by simp
    rw [e]
    exact k.blk q _ e (fun _ => hq) (fun _ z => by have := g.lo q z; omega))
  exact ⟨h1.glb, fun q hq => by
    simp at hq
    rcases hq with hq | hq
    · exact g.lo q hq
    · exact Nat.le_trans g.sz (hu q hq), h1.sz, h1.ab, h1.gb⟩
theorem Gk.x {B : Nat} {a b : List Nat} {w1 w2 : World} (h : Gk B a b w1 w2) : XKeep w1 w2 := fun k cs e f he hk => h.kw.blk k _ hk (by
    rintro ⟨cs', e', f', hx, ht⟩
    simp only [Obj.cells.injEq] at hx
    obtain ⟨_, rfl, _⟩ := hx
    rcases ht with rfl | rfl <;> simp [isXT] at he) (by
    rintro ⟨cs', e', f', hx, ht⟩
    simp only [Obj.cells.injEq] at hx
    obtain ⟨_, rfl, _⟩ := hx
    rcases ht with rfl | rfl | rfl | rfl <;> simp [isXT] at he)
theorem Gk.ch {B : Nat} {a b : List Nat} {w1 w2 : World} (h : Gk B a b w1 w2) {l : List Bd} {v : Value} (hc : CH w1 (RV a) l v) : CH w2 (RV b) l v := by
  have := hc.keep (w' := w2) (fun q cs f hq => h.kw.blk q _ hq (by
    rintro ⟨cs', e', f', hx, ht⟩
    simp only [Obj.cells.injEq] at hx
    obtain ⟨_, rfl, _⟩ := hx
    rcases ht with e | e <;> cases e) (by
    rintro ⟨cs', e', f', hx, ht⟩
    simp only [Obj.cells.injEq] at hx
    obtain ⟨_, rfl, _⟩ := hx
    rcases ht with e | e | e | e <;> cases e))
  exact this.mono (fun r v => h.rv)
theorem Gk.gm {B : Nat} {a b : List Nat} {w1 w2 : World} (h : Gk B a b w1 w2) {g : Gv} {gm : Nat} (hg : GM w1 gm a g) : GM w2 gm b g := by
  obtain ⟨⟨u, rfl, hu⟩, k⟩ := h
  obtain ⟨l, h1, h2⟩ := hg
  exact ⟨l, k.blk _ _ h1 (by rintro ⟨cs, e, f, he, _⟩; cases he) (by rintro ⟨cs, e, f, he, _⟩; cases he), h2.up u⟩
section
variable {ω : Type} (A : Nat → Addr) (B : Nat) (K : World → ω → Prop)
/-- what stands when an expression is typed. -/
structure TI (w : World) (ad : List Nat) (σ : St) (own : List Bd) (gv : Gv) (p : Option Addr) (gm : Nat) (o : ω) : Prop where
  sx : SX w ad σ
  ws : WS σ
  ga : GA A B ad w
  ch : CH w (RV ad) own (.pointer p)
  gm : GM w gm ad gv
  k : K w o
/-- the watcher keeps what it has, while types are made. -/
def KOk : Prop := ∀ (w w' : World) (ad : List Nat) (o : ω), K w o → Kt ad (fun _ => False) w w' → K w' o
/-- how a call that types ends. -/
def TyO (ad : List Nat) (w : World) (e : Ending) (w' : World) (o : ω) : Oc (TR × St) → Prop
  | .ok q => ∃ v ad', e = .returned v ∧ RV ad' q.1 v ∧ SX w' ad' q.2 ∧ WS q.2 ∧ K w' o ∧ Gk B ad ad' w w'
  | .er j => Thr A j e ∧ K w' o ∧ Kw B ad w w'
end
section
variable {ω : Type} {A : Nat → Addr} {B : Nat} {K : World → ω → Prop} {w w' : World} {ad ad' : List Nat} {σ σ' : St} {own : List Bd} {gv : Gv} {p : Option Addr} {gm : Nat} {o o' : ω}
theorem TI.to (h : TI A B K w ad σ own gv p gm o) (g : Gk B ad ad' w w') (hs : SX w' ad' σ') (hw : WS σ') (hk : K w' o') : TI A B K w' ad' σ' own gv p gm o' := ⟨hs, hw, g.ga h.ga, g.ch h.ch, g.gm h.gm, hk⟩
theorem TI.kept (hK : KOk K) (h : TI A B K w ad σ own gv p gm o) (k : Kept w w') : TI A B K w' ad σ own gv p gm o := h.to (Gk.ofKt (Kt.of_kept k)) (h.sx.kept k) h.ws (hK _ _ [] _ h.k (Kt.of_kept k))
theorem TyO.pre {e : Ending} {r : Oc (TR × St)} {w1 : World} {ad1 : List Nat} (g : Gk B ad ad1 w w1) (h : TyO A B K ad1 w1 e w' o r) : TyO A B K ad w e w' o r := by
  cases r with
  | ok q =>
    obtain ⟨v, ad', h1, h2, h3, h4, h5, h6⟩ := h
    exact ⟨v, ad', h1, h2, h3, h4, h5, g.trans h6⟩
  | er j =>
    obtain ⟨h1, h2, h3⟩ := h
    exact ⟨h1, h2, (g.trans (Gk.ofKw h3)).kw⟩
end
def RbO (A : Nat → Addr) (ad : List Nat) (σ : St) (w : World) (big : Bool) (e : Ending) (w' : World) : Prop := (big = true ∧ Thr A 4 e ∧ Kt ad (fun _ => False) w w') ∨ (big = false ∧ e = .returned (.tuple #[]) ∧ SX w' ad σ ∧ Kt ad (fun _ => False) w w')
set_option maxRecDepth 20000 in
theorem rbig_sx {A : Nat → Addr} {B : Nat} {σ : St} {r : TR} {big : Bool} (h : bigF σ r = some big) (w : World) (ad : List Nat) (v : Value) (hG : GA A B ad w) (hs : SX w ad σ) (hv : RV ad r v) : Calls Tryz.prog 107 #[v] w (RbO A ad σ w big) := by
  have HA : Hid _ := above_sx h w ad v hs hv
  have HG : Hid _ := hG
  obtain ⟨T, u, rfl⟩ := hv.iface
  clear hs hv h hG
  go_enter Tryz.func107, Tryz.ntmps107
  go_wp2_with fail
  refine Calls.mono HA.out ?_
  rintro e w1 ⟨rfl, hs1, hk1⟩
  have hg := (HG.out.kt0 hk1).glb.c4
  have HS : Hid _ := hs1
  have HK : Hid _ := hk1
  clear hs1 hk1 HA
  cases big with
  | true =>
    have HR : Hid _ := prefuse_es (A 4) w1
    go_wp2_with fail
    refine Calls.mono HR.out ?_
    rintro e w' ⟨rfl, hww⟩
    rw [hww]
    clear hww w' HR
    go_wp2
    exact ⟨rfl, .inl ⟨rfl, rfl, HK.out⟩⟩
  | false =>
    go_wp2
    exact bodyPost_end (results_none Tryz.results107 _ _ _) rfl (.inr ⟨rfl, rfl, HS.out, HK.out⟩)
end Go.Proofs.YtleenphlgbklmabGreatDoor

namespace Go.Proofs.YtleenphlgbklmabGreatDoor
open Go.RowKit

theorem Tryz.mkFr (w : World) : (Instr.makeMap 313 none).run Tryz.prog w = .ok (.map (some w.heap.size)) (w.alloc (.map #[] 0)) := by kernel_rfl
theorem VV.none (w : World) (ad : List Nat) (σ : St) : VV (w.alloc (.map #[] 0)) w.heap.size ad σ [] := ⟨[], heap_alloc_new _ _, trivial, fun e he => by simp at he⟩
theorem Gw.drop {ad ad' : List Nat} {w w1 w' : World} {mb : Nat} (h : Kept w w1) (g : Gw (fun q => q = mb) ad ad' w1 w') (hm : w.heap.size ≤ mb) : Gw (fun _ => False) ad ad' w w' := by
  obtain ⟨⟨u, hu, hq⟩, k⟩ := g
  exact ⟨⟨u, hu, fun q z => Nat.le_trans h.size (hq q z)⟩, Kt.drop h k hm⟩
theorem find_sx {w : World} {ad : List Nat} {own : List Bd} {gv : Gv} {p : Option Addr} {gm : Nat} {n : ByteArray} {r : TR} (hC : CH w (RV ad) own (.pointer p)) (hG : GM w gm ad gv) (h : findF n gv own = some r) :
    Calls Tryz.prog 103 #[.agg #[.pointer p, .map (some gm)], .string n] w fun e w' => Kept w w' ∧ ∃ T u, e = .returned (.tuple #[.iface T u, .bool true]) ∧ RV ad r (.iface T u) := by
  rw [findF_own] at h
  cases hg : findG n gv with
  | some g =>
    obtain ⟨v, hv, _⟩ := (look_gm hG n).1 g hg
    refine (find_own (x := v) (y := .bool true) hC (fun W hW => ?_)).mono ?_
    · obtain ⟨v', hv', hl⟩ := (look_gm (hG.kt (Kt.of_kept (ad := ad) (S := fun _ => False) hW) id) n).1 g hg
      rw [hv.det hv']
      exact hl
    · rintro e w' ⟨hk, h1, h2⟩
      refine ⟨hk, ?_⟩
      cases ho : findO n own with
      | some q =>
        rw [ho] at h
        simp only [Option.some.injEq] at h
        subst h
        obtain ⟨v, rfl, hv⟩ := h1 _ ho
        obtain ⟨T, u, rfl⟩ := hv.iface
        exact ⟨T, u, rfl, hv⟩
      | none =>
        rw [ho] at h
        simp only [hg, Option.some.injEq] at h
        subst h
        obtain ⟨T, u, rfl⟩ := hv.iface
        exact ⟨T, u, h2 ho, hv⟩
  | none =>
    refine (find_own (x := .nilIface) (y := .bool false) hC (fun W hW => ?_)).mono ?_
    · exact (look_gm (hG.kt (Kt.of_kept (ad := ad) (S := fun _ => False) hW) id) n).2 hg
    · rintro e w' ⟨hk, h1, h2⟩
      refine ⟨hk, ?_⟩
      cases ho : findO n own with
      | some q =>
        rw [ho] at h
        simp only [Option.some.injEq] at h
        subst h
        obtain ⟨v, rfl, hv⟩ := h1 _ ho
        obtain ⟨T, u, rfl⟩ := hv.iface
        exact ⟨T, u, rfl, hv⟩
      | none =>
        rw [ho, hg] at h
        simp at h
set_option maxRecDepth 20000 in
set_option maxHeartbeats 2000000 in
theorem tname_sx {ω : Type} {A : Nat → Addr} {B : Nat} {K : World → ω → Prop} (hK : KOk K) {w : World} {ad : List Nat} {σ : St} {own : List Bd} {gv : Gv} {p : Option Addr} {gm : Nat} {o : ω} (hT : TI A B K w ad σ own gv p gm o) {n : ByteArray} {loc eb : Nat} (hb : w.heap[eb]? = some (.cells #[.int .i64 1, .string n, .int .i64 loc] 239 (0, 0))) {r : Oc (TR × St)} (h : nameF gv n own σ = some r) :
    Calls Tryz.prog 142 #[.pointer (some ⟨eb, 0, none⟩), .agg #[.pointer p, .map (some gm)]] w fun e w' => TyO A B K ad w e w' o r := by
  simp only [nameF, Option.bind_eq_some_iff] at h
  obtain ⟨s, hs, big, hbig, h⟩ := h
  have hka : Kept w (w.alloc (.cells #[.pointer p, .map (some gm)] 168)) := Kept.alloc _ _
  have hn0 := heap_alloc_new w (.cells #[.pointer p, .map (some gm)] 168)
  go_enter Tryz.func142, Tryz.ntmps142
  go_wp2_with fail
  generalize w.alloc (.cells #[.pointer p, .map (some gm)] 168) = W at *
  have hkd : Kept w W.drew := hka.trans (Kept.drew W)
  have hn0 := (Kept.drew W).blk hn0
  have hbd := hkd.blk hb
  have hT1 := hT.kept hK hkd
  have HC : Hid _ := find_sx hT1.ch hT1.gm hs
  have HT1 : Hid _ := hT1
  have HKD : Hid _ := hkd
  have HKA : Hid _ := hka
  have HT : Hid _ := hT
  have HBIG : Hid _ := hbig
  have HH : Hid _ := h
  have HKEEP : Hid (∀ w2, Kept W.drew w2 → w2.cell? ⟨w.heap.size, 0, none⟩ = some (.pointer p) ∧ w2.cell? ⟨w.heap.size, 1, none⟩ = some (.map (some gm)) ∧ w2.cell? ⟨eb, 1, none⟩ = some (.string n)) := fun w2 k => by
    have e1 := k.blk hn0
    have e2 := k.blk hbd
    exact ⟨by simp [World.cell?, e1], by simp [World.cell?, e1], by simp [World.cell?, e2]⟩
  have c0 : W.drew.cell? ⟨w.heap.size, 0, none⟩ = some (.pointer p) := by simp [World.cell?, hn0]
  have c1 : W.drew.cell? ⟨w.heap.size, 1, none⟩ = some (.map (some gm)) := by simp [World.cell?, hn0]
  have c2 : W.drew.cell? ⟨eb, 1, none⟩ = some (.string n) := by simp [World.cell?, hbd]
  clear hT1 hka hkd hT hbig h hs hb hbd hn0
  go_region_held3 (fun w' => w'.cell? ⟨w.heap.size, 0, none⟩ = some (.pointer p) ∧ w'.cell? ⟨w.heap.size, 1, none⟩ = some (.map (some gm)) ∧ w'.cell? ⟨eb, 1, none⟩ = some (.string n)) (go_keep) (first | (go_at_call 103; refine Calls.mono HC.out ?_; rintro e w2 ⟨hk2, T, u, rfl, hv2⟩; obtain ⟨j0, j1, j2⟩ := HKEEP.out w2 hk2; have HK2 : Hid _ := hk2; have HV2 : Hid _ := hv2; clear hk2 hv2 HC))
  all_goals
    have hkk := HKD.out.trans HK2.out
    have hT2 := HT.out.kept hK hkk
    have HT2 : Hid _ := hT2
    have HR : Hid _ := rbig_sx HBIG.out w2 ad _ hT2.ga hT2.sx HV2.out
    have HKK : Hid _ := hkk
    clear hkk hT2 HT1 HK2 HKEEP j0 j1 j2 c0 c1 c2
    go_wp2_with fail
    refine Calls.mono HR.out ?_
    rintro e w3 (⟨rfl, he, hk3⟩ | ⟨rfl, rfl, hs3, hk3⟩)
    · have hh := HH.out
      simp only [if_true, Option.some.injEq] at hh
      subst hh
      rw [show e = _ from he]
      have HF : Hid (TyO A B K ad w (thrown (.iface 342 (.pointer (some (A 4))))) w3 o (.er 4)) := ⟨rfl, hK _ _ _ _ HT2.out.k hk3, ((Gk.ofKt (Kt.of_kept HKK.out)).trans (Gk.ofKt hk3)).kw⟩
      clear he hk3 HR
      go_wp2
      exact ⟨rfl, HF.out⟩
    · have hh := HH.out
      simp only [Bool.false_eq_true, if_false, Option.bind_eq_some_iff, Option.some.injEq] at hh
      obtain ⟨q, hq, rfl⟩ := hh
      have m1 := Tryz.mkFr w3
      have hka : Kept w3 (w3.alloc (.map #[] 0)) := Kept.alloc _ _
      have HI : Hid _ := ins_sx 500 σ s [] q hq (w3.alloc (.map #[] 0)) ad _ w3.heap.size (hs3.kept hka) HT2.out.ws HV2.out (VV.none w3 ad σ)
      have HK3 : Hid _ := hk3
      have HKA3 : Hid _ := hka
      have HKW : Hid _ := hK _ _ _ _ HT2.out.k hk3
      clear hs3 hk3 hka hq HR
      go_wp2_with fail
      refine Calls.mono HI.out ?_
      rintro e w4 ⟨v4, ad4, rfl, hv4, hs4, hw4, hm4, hg4⟩
      have hg5 := Gw.drop HKA3.out hg4 (Nat.le_refl _)
      have HF : Hid (TyO A B K ad w (.returned v4) w4 o (.ok (q.1, q.2.1))) := ⟨v4, ad4, rfl, hv4, hs4, hw4, hK _ _ _ _ HKW.out hg5.kt, ((Gk.ofKt (Kt.of_kept HKK.out)).trans (Gk.ofKt HK3.out)).trans (Gk.of hg5)⟩
      clear hv4 hs4 hw4 hm4 hg4 hg5 HI
      go_wp2
      go_ret
      exact HF.out
end Go.Proofs.YtleenphlgbklmabGreatDoor

namespace Go.Proofs.YtleenphlgbklmabGreatDoor
open Go.RowKit

/-- a kind of block that typing does not change. -/
def othT (e : TypeId) : Bool := !(e == 148 || e == 152 || e == 156 || e == 160 || e == 39 || e == 36)
theorem Gk.oth {B : Nat} {a b : List Nat} {w1 w2 : World} (h : Gk B a b w1 w2) {k : Nat} {cs : Array Value} {e : TypeId} {f : Nat × Nat} (he : othT e = true) (hk : w1.heap[k]? = some (.cells cs e f)) : w2.heap[k]? = some (.cells cs e f) := h.kw.blk k _ hk (by
    rintro ⟨cs', e', f', hx, ht⟩
    simp only [Obj.cells.injEq] at hx
    obtain ⟨_, rfl, _⟩ := hx
    rcases ht with rfl | rfl <;> simp [othT] at he) (by
    rintro ⟨cs', e', f', hx, ht⟩
    simp only [Obj.cells.injEq] at hx
    obtain ⟨_, rfl, _⟩ := hx
    rcases ht with rfl | rfl | rfl | rfl <;> simp [othT] at he)
/-- a frame of typing: what it was handed, and the expression. -/
structure FX (V : World) (b1 b2 eb : Nat) (fl : Int) (wv : Value) (p : Option Addr) (gm : Nat) (cs : Array Value) (et : TypeId) : Prop where
  by0 : V.heap[b1]? = some (.cells #[.int .i64 fl, wv] 103 (0, 0))
  sc : V.heap[b2]? = some (.cells #[.pointer p, .map (some gm)] 168 (0, 0))
  ex : V.heap[eb]? = some (.cells cs et (0, 0))
section
variable {V V' : World} {b1 b2 eb : Nat} {fl : Int} {wv : Value} {p : Option Addr} {gm : Nat} {cs : Array Value} {et : TypeId}
theorem FX.gk (h : FX V b1 b2 eb fl wv p gm cs et) {B : Nat} {a b : List Nat} (g : Gk B a b V V') (he : othT et = true) : FX V' b1 b2 eb fl wv p gm cs et := ⟨g.oth (by decide) h.by0, g.oth (by decide) h.sc, g.oth he h.ex⟩
theorem FX.kept (h : FX V b1 b2 eb fl wv p gm cs et) (k : Kept V V') : FX V' b1 b2 eb fl wv p gm cs et := ⟨k.blk h.by0, k.blk h.sc, k.blk h.ex⟩
theorem FX.c (h : FX V b1 b2 eb fl wv p gm cs et) : V.cell? ⟨b1, 0, none⟩ = some (.int .i64 fl) ∧ V.cell? ⟨b1, 1, none⟩ = some wv ∧ V.cell? ⟨b2, 0, none⟩ = some (.pointer p) ∧ V.cell? ⟨b2, 1, none⟩ = some (.map (some gm)) := ⟨by simp [World.cell?, h.by0], by simp [World.cell?, h.by0], by simp [World.cell?, h.sc], by simp [World.cell?, h.sc]⟩
theorem FX.x (h : FX V b1 b2 eb fl wv p gm cs et) {i : Nat} {v : Value} (hv : cs[i]? = some v) : V.cell? ⟨eb, i, none⟩ = some v := by simp [World.cell?, h.ex, hv]
end
theorem fx_start (w : World) (eb : Nat) (fl : Int) (wv : Value) (p : Option Addr) (gm : Nat) {cs : Array Value} {et : TypeId} (hb : w.heap[eb]? = some (.cells cs et (0, 0))) : FX ((w.alloc (.cells #[.int .i64 fl, wv] 103)).alloc (.cells #[.pointer p, .map (some gm)] 168)) w.heap.size (w.heap.size + 1) eb fl wv p gm cs et ∧ Kept w ((w.alloc (.cells #[.int .i64 fl, wv] 103)).alloc (.cells #[.pointer p, .map (some gm)] 168)) := by
  have k1 : Kept w (w.alloc (.cells #[.int .i64 fl, wv] 103)) := Kept.alloc _ _
  have k2 : Kept (w.alloc (.cells #[.int .i64 fl, wv] 103)) ((w.alloc (.cells #[.int .i64 fl, wv] 103)).alloc (.cells #[.pointer p, .map (some gm)] 168)) := Kept.alloc _ _
  have hs : (w.alloc (.cells #[.int .i64 fl, wv] 103)).heap.size = w.heap.size + 1 := by simp
  refine ⟨⟨k2.blk (heap_alloc_new _ _), ?_, (k1.trans k2).blk hb⟩, k1.trans k2⟩
  rw [← hs]
  exact heap_alloc_new _ _
section
variable {ω : Type} (A : Nat → Addr) (B : Nat) (K : World → ω → Prop) (gv : Gv) (fl : Int) (wv : Value)
/-- the program's typeOf does what the mirror does. -/
def STf (f : X → List Bd → St → ω → Option (Oc (TR × St) × ω)) : Prop := ∀ (x : X) (own : List Bd) (σ : St) (o : ω) (res : Oc (TR × St) × ω), f x own σ o = some res → ∀ (w : World) (ad : List Nat) (v : Value) (p : Option Addr) (gm : Nat), PX w (fun _ => True) x v → TI A B K w ad σ own gv p gm o →
  Calls Tryz.prog 73 #[.agg #[.int .i64 fl, wv], v, .agg #[.pointer p, .map (some gm)]] w fun e w' => TyO A B K ad w e w' res.2 res.1
end
theorem PX.gk {w w' : World} {B : Nat} {a b : List Nat} (g : Gk B a b w w') {x : X} {v : Value} (h : PX w (fun _ => True) x v) : PX w' (fun _ => True) x v := h.keepT g.x
theorem XKeep.kept {w w' : World} (k : Kept w w') : XKeep w w' := fun _ _ _ _ _ h => k.blk h
theorem STf.call {ω : Type} {A : Nat → Addr} {B : Nat} {K : World → ω → Prop} {gv : Gv} {fl : Int} {wv : Value} {f : X → List Bd → St → ω → Option (Oc (TR × St) × ω)} (hf : STf A B K gv fl wv f) {x : X} {own : List Bd} {σ : St} {o o1 : ω} {r1 : Oc (TR × St)} (h : f x own σ o = some (r1, o1)) {w : World} {ad : List Nat} {v : Value} {p : Option Addr} {gm : Nat} (hx : PX w (fun _ => True) x v) (hT : TI A B K w ad σ own gv p gm o) :
    Calls Tryz.prog 73 #[.agg #[.int .i64 fl, wv], v, .agg #[.pointer p, .map (some gm)]] w fun e w' => (∃ j, r1 = .er j ∧ e = thrown (.iface 342 (.pointer (some (A j)))) ∧ K w' o1 ∧ Kw B ad w w') ∨ (∃ q T u ad', r1 = .ok q ∧ e = .returned (.iface T u) ∧ RV ad' q.1 (.iface T u) ∧ TI A B K w' ad' q.2 own gv p gm o1 ∧ Gk B ad ad' w w') := by
  refine (hf x own σ o (r1, o1) h w ad v p gm hx hT).mono ?_
  intro e w' hE
  cases r1 with
  | er j => exact .inl ⟨j, rfl, hE.1, hE.2.1, hE.2.2⟩
  | ok q =>
    obtain ⟨v', ad', rfl, h2, h3, h4, h5, h6⟩ := hE
    obtain ⟨T, u, rfl⟩ := h2.iface
    exact .inr ⟨q, T, u, ad', rfl, rfl, h2, hT.to h6 h3 h4 h5, h6⟩
/-- a new arrow, laid behind. -/
theorem SX.newa {w : World} {ad : List Nat} {σ : St} (hs : SX w ad σ) (hw : WS σ) {x y : TR} {p q : Value} (hp : RV ad x p) (hq : RV ad y q) : SX (w.alloc (.cells #[.nilIface, p, q] 160)) (ad ++ [w.heap.size]) (σ ++ [⟨.ar x y, none⟩]) :=
  (hs.kept (Kept.alloc _ _)).add hw (fun z => by have := hs.lt z; omega) (heap_alloc_new _ _) ⟨p, q, hp, hq, rfl⟩
theorem SX.newp {w : World} {ad : List Nat} {σ : St} (hs : SX w ad σ) (hw : WS σ) {x y : TR} {p q : Value} (hp : RV ad x p) (hq : RV ad y q) : SX (w.alloc (.cells #[.nilIface, p, q] 156)) (ad ++ [w.heap.size]) (σ ++ [⟨.pr x y, none⟩]) :=
  (hs.kept (Kept.alloc _ _)).add hw (fun z => by have := hs.lt z; omega) (heap_alloc_new _ _) ⟨p, q, hp, hq, rfl⟩
theorem Gk.new {B : Nat} {ad : List Nat} (w : World) (o : Obj) : Gk B ad (ad ++ [w.heap.size]) w (w.alloc o) := Gk.of (Gw.snoc (Kt.of_kept (Kept.alloc _ _)) (Nat.le_refl _))
set_option maxRecDepth 20000 in
set_option maxHeartbeats 4000000 in
theorem tapp_sx {ω : Type} {A : Nat → Addr} {B : Nat} {K : World → ω → Prop} (hK : KOk K) {gv : Gv} {fl : Int} {wv : Value} {f : X → List Bd → St → ω → Option (Oc (TR × St) × ω)} (hf : STf A B K gv fl wv f) {x y : X} {own : List Bd} {σ : St} {o : ω} {res : Oc (TR × St) × ω} (h : appF f x y own σ o = some res) {w : World} {ad : List Nat} {p : Option Addr} {gm : Nat} (hT : TI A B K w ad σ own gv p gm o) {eb dpt : Nat} {vx vy : Value} (hb : w.heap[eb]? = some (.cells #[.int .i64 dpt, vx, vy] 254 (0, 0))) (hx : PX w (fun _ => True) x vx) (hy : PX w (fun _ => True) y vy) :
    Calls Tryz.prog 146 #[.agg #[.int .i64 fl, wv], .pointer (some ⟨eb, 0, none⟩), .agg #[.pointer p, .map (some gm)]] w fun e w' => TyO A B K ad w e w' res.2 res.1 := by
  simp only [appF, Option.bind_eq_some_iff] at h
  obtain ⟨⟨r1, o1⟩, h1, h⟩ := h
  obtain ⟨hF, hk0⟩ := fx_start w eb fl wv p gm hb
  obtain ⟨Tx, ux, rfl⟩ := hx.iface
  obtain ⟨Ty, uy, rfl⟩ := hy.iface
  go_enter Tryz.func146, Tryz.ntmps146
  go_wp2_with fail
  generalize (w.alloc (.cells #[.int .i64 fl, wv] 103)).alloc (.cells #[.pointer p, .map (some gm)] 168) = W at *
  have hkd : Kept w W.drew := hk0.trans (Kept.drew W)
  have hF := hF.kept (Kept.drew W)
  have hT1 := hT.kept hK hkd
  have hPY := PX.keepT (XKeep.kept hkd) hy
  have hG0 : Gk B ad ad w W.drew := Gk.ofKt (Kt.of_kept hkd)
  have HC : Hid (Calls Tryz.prog 73 #[.agg #[.int .i64 fl, wv], .iface Tx ux, .agg #[.pointer p, .map (some gm)]] W.drew fun e w2 => (∃ a, e = thrown (.iface 342 (.pointer (some a))) ∧ TyO A B K ad w (thrown (.iface 342 (.pointer (some a)))) w2 res.2 res.1) ∨ (∃ T2 u2, e = .returned (.iface T2 u2) ∧ w2.cell? ⟨w.heap.size, 0, none⟩ = some (.int .i64 fl) ∧ w2.cell? ⟨w.heap.size, 1, none⟩ = some wv ∧ w2.cell? ⟨w.heap.size + 1, 0, none⟩ = some (.pointer p) ∧ w2.cell? ⟨w.heap.size + 1, 1, none⟩ = some (.map (some gm)) ∧ w2.cell? ⟨eb, 1, none⟩ = some (.iface Tx ux) ∧ Hid (∃ q ad2, r1 = .ok q ∧ RV ad2 q.1 (.iface T2 u2) ∧ TI A B K w2 ad2 q.2 own gv p gm o1 ∧ Gk B ad ad2 w w2 ∧ FX w2 w.heap.size (w.heap.size + 1) eb fl wv p gm #[.int .i64 dpt, .iface Tx ux, .iface Ty uy] 254 ∧ PX w2 (fun _ => True) y (.iface Ty uy)))) := by
    refine (hf.call h1 (hx.keepT (XKeep.kept hkd)) hT1).mono ?_
    rintro e w2 (⟨j, rfl, rfl, hk, hw⟩ | ⟨q, T2, u2, ad2, rfl, rfl, hv, hT2, hg⟩)
    · simp only [Option.some.injEq] at h
      subst h
      exact .inl ⟨_, rfl, rfl, hk, (hG0.trans (Gk.ofKw hw)).kw⟩
    · have hF2 := hF.gk hg (by decide)
      obtain ⟨d0, d1, d2, d3⟩ := hF2.c
      exact .inr ⟨T2, u2, rfl, d0, d1, d2, d3, hF2.x (i := 1) rfl, q, ad2, rfl, hv, hT2, hG0.trans hg, hF2, hPY.gk hg⟩
  obtain ⟨c0, c1, c2, c3⟩ := hF.c
  have c4 := hF.x (i := 1) (v := .iface Tx ux) rfl
  have HFF : Hid _ := hf
  have HH : Hid _ := h
  clear hT hT1 hF hk0 hkd hx hy h1 hf h hb hPY hG0
  go_region_held2 (fun w' => w'.cell? ⟨w.heap.size, 0, none⟩ = some (.int .i64 fl) ∧ w'.cell? ⟨w.heap.size, 1, none⟩ = some wv ∧ w'.cell? ⟨w.heap.size + 1, 0, none⟩ = some (.pointer p) ∧ w'.cell? ⟨w.heap.size + 1, 1, none⟩ = some (.map (some gm)) ∧ w'.cell? ⟨eb, 1, none⟩ = some (.iface Tx ux)) (go_keep) (first | (go_at_call 73; refine Calls.mono HC.out ?_; rintro e w2 (⟨a, rfl, hE⟩ | ⟨T2, u2, rfl, d0, d1, d2, d3, d4, HR⟩); exact ⟨rfl, hE⟩; clear HC))
  all_goals
    obtain ⟨q, ad2, rfl, hv2, hT2, hg2, hF2, hP2⟩ := HR.out
    have hh := HH.out
    simp only [Option.bind_eq_some_iff] at hh
    obtain ⟨⟨r3, o3⟩, h3, hh⟩ := hh
    have hs2 := hT2.sx
    have hV : Kept w2 (w2.alloc (.cells #[.nilIface, .string { data := #[] }, .bool false] 148)) := Kept.alloc _ _
    have hVd : Kept w2 (w2.alloc (.cells #[.nilIface, .string { data := #[] }, .bool false] 148)).drew := hV.trans (Kept.drew _)
    have hgn : Gk B ad2 (ad2 ++ [w2.heap.size]) w2 (w2.alloc (.cells #[.nilIface, .string { data := #[] }, .bool false] 148)).drew := (Gk.new w2 _).trans (Gk.ofKt (Kt.of_kept (Kept.drew _)))
    have hrl : RV (ad2 ++ [w2.heap.size]) (.nd .vr q.2.length) (.iface 124 (.pointer (some ⟨w2.heap.size, 0, none⟩))) := RV.last hs2.len .vr
    have hT3 : TI A B K (w2.alloc (.cells #[.nilIface, .string { data := #[] }, .bool false] 148)).drew (ad2 ++ [w2.heap.size]) (q.2 ++ [newV]) own gv p gm o1 := hT2.to hgn ((hs2.newv hT2.ws false).kept (Kept.drew _)) (hT2.ws.add _) (hK _ _ [] _ hT2.k (Kt.of_kept hVd))
    have hg3 : Gk B ad (ad2 ++ [w2.heap.size]) w (w2.alloc (.cells #[.nilIface, .string { data := #[] }, .bool false] 148)).drew := hg2.trans hgn
    have hv3 : RV (ad2 ++ [w2.heap.size]) q.1 (.iface T2 u2) := hv2.up _
    have hF3 := hF2.kept hVd
    have hP3 := PX.keepT (XKeep.kept hVd) hP2
    go_wp2_with fail
    generalize (w2.alloc (.cells #[.nilIface, .string { data := #[] }, .bool false] 148)) = V at *
    have HC : Hid (Calls Tryz.prog 73 #[.agg #[.int .i64 fl, wv], .iface Ty uy, .agg #[.pointer p, .map (some gm)]] V.drew fun e w3 => (∃ a, e = thrown (.iface 342 (.pointer (some a))) ∧ TyO A B K ad w (thrown (.iface 342 (.pointer (some a)))) w3 res.2 res.1) ∨ (∃ T3 u3, e = .returned (.iface T3 u3) ∧ w3.cell? ⟨w.heap.size, 0, none⟩ = some (.int .i64 fl) ∧ w3.cell? ⟨w.heap.size, 1, none⟩ = some wv ∧ w3.cell? ⟨w.heap.size + 1, 0, none⟩ = some (.pointer p) ∧ w3.cell? ⟨w.heap.size + 1, 1, none⟩ = some (.map (some gm)) ∧ w3.cell? ⟨eb, 2, none⟩ = some (.iface Ty uy) ∧
        Hid (Calls Tryz.prog 164 #[.iface T2 u2, .iface 157 (.pointer (some ⟨w3.heap.size, 0, none⟩))] (w3.alloc (.cells #[.nilIface, .iface T3 u3, .iface 124 (.pointer (some ⟨w2.heap.size, 0, none⟩))] 160)) fun e w4 => (∃ a, e = thrown (.iface 342 (.pointer (some a))) ∧ TyO A B K ad w (thrown (.iface 342 (.pointer (some a)))) w4 res.2 res.1) ∨ (e = .returned (.tuple #[]) ∧ w4.cell? ⟨w.heap.size, 0, none⟩ = some (.int .i64 fl) ∧ w4.cell? ⟨w.heap.size, 1, none⟩ = some wv ∧ w4.cell? ⟨w.heap.size + 1, 0, none⟩ = some (.pointer p) ∧ w4.cell? ⟨w.heap.size + 1, 1, none⟩ = some (.map (some gm)) ∧ w4.cell? ⟨eb, 2, none⟩ = some (.iface Ty uy) ∧ Hid (TyO A B K ad w (.returned (.iface 124 (.pointer (some ⟨w2.heap.size, 0, none⟩)))) w4 res.2 res.1))))) := by
      refine (STf.call HFF.out h3 hP3 hT3).mono ?_
      rintro e w3 (⟨j, rfl, rfl, hk, hw⟩ | ⟨q3, T3, u3, ad3, rfl, rfl, hv4, hT4, hg4⟩)
      · simp only [Option.some.injEq] at hh
        subst hh
        exact .inl ⟨_, rfl, rfl, hk, (hg3.trans (Gk.ofKw hw)).kw⟩
      · have hF4 := hF3.gk hg4 (by decide)
        obtain ⟨e0, e1, e2, e3⟩ := hF4.c
        refine .inr ⟨T3, u3, rfl, e0, e1, e2, e3, hF4.x (i := 2) rfl, ?_⟩
        simp only [Option.bind_eq_some_iff] at hh
        obtain ⟨eo, heo, hh⟩ := hh
        have hs4 := hT4.sx
        have hrl4 := hg4.rv hrl
        have hs5 := hs4.newa hT4.ws hv4 hrl4
        have hka : Kept w3 (w3.alloc (.cells #[.nilIface, .iface T3 u3, .iface 124 (.pointer (some ⟨w2.heap.size, 0, none⟩))] 160)) := Kept.alloc _ _
        have hgn5 : Gk B ad3 (ad3 ++ [w3.heap.size]) w3 (w3.alloc (.cells #[.nilIface, .iface T3 u3, .iface 124 (.pointer (some ⟨w2.heap.size, 0, none⟩))] 160)) := Gk.new w3 _
        have hF5 := hF4.kept hka
        refine (eq_sx A B 500 _ _ _ eo heo _ (ad3 ++ [w3.heap.size]) _ _ (hgn5.ga hT4.ga) hs5 ((hg4.rv hv3).up _) (RV.last hs4.len .ar)).mono ?_
        intro e w4 hE
        cases eo with
        | er j =>
          simp only [Option.some.injEq] at hh
          subst hh
          obtain ⟨he, hk4⟩ := hE
          exact .inl ⟨_, he, rfl, hK _ _ _ _ (hK _ _ [] _ hT4.k (Kt.of_kept hka)) hk4, (((hg3.trans hg4).trans hgn5).trans (Gk.ofKt hk4)).kw⟩
        | ok σ1 =>
          simp only [Option.some.injEq] at hh
          subst hh
          obtain ⟨he, hs6, hk4⟩ := hE
          have hF6 := hF5.gk (Gk.ofKt (B := B) hk4) (by decide)
          obtain ⟨f0, f1, f2, f3⟩ := hF6.c
          exact .inr ⟨he, f0, f1, f2, f3, hF6.x (i := 2) rfl, _, _, rfl, hrl4.up _, hs6, WS.eq 500 (hT4.ws.add _) heo, hK _ _ _ _ (hK _ _ [] _ hT4.k (Kt.of_kept hka)) hk4, ((hg3.trans hg4).trans hgn5).trans (Gk.ofKt hk4)⟩
    obtain ⟨c0, c1, c2, c3⟩ := hF3.c
    have c4 := hF3.x (i := 2) (v := .iface Ty uy) rfl
    clear hs2 hV hVd hgn hrl hT3 hg3 hv3 hF3 hP3 hT2 hg2 hF2 hP2 hv2 h3 hh HR HFF HH d0 d1 d2 d3 d4
    go_region_held2 (fun w' => w'.cell? ⟨w.heap.size, 0, none⟩ = some (.int .i64 fl) ∧ w'.cell? ⟨w.heap.size, 1, none⟩ = some wv ∧ w'.cell? ⟨w.heap.size + 1, 0, none⟩ = some (.pointer p) ∧ w'.cell? ⟨w.heap.size + 1, 1, none⟩ = some (.map (some gm)) ∧ w'.cell? ⟨eb, 2, none⟩ = some (.iface Ty uy)) (go_keep) (first | (go_at_call 73; refine Calls.mono HC.out ?_; rintro e w3 (⟨a, rfl, hE⟩ | ⟨T3, u3, rfl, d0, d1, d2, d3, d4, HD⟩); exact ⟨rfl, hE⟩; clear HC) | (go_at_call 164; refine Calls.mono HD.out ?_; rintro e w4 (⟨a, rfl, hE⟩ | ⟨rfl, f0, f1, f2, f3, f4, HR⟩); exact ⟨rfl, hE⟩; clear HD))
    all_goals
      go_wp2
      go_ret
      exact HR.out
end Go.Proofs.YtleenphlgbklmabGreatDoor
