import Derived.Test.YtleenphlgbklmabGreatDoorXPTyS
import Derived.Test.YtleenphlgbklmabGreatDoorXPTyB
import Derived.Deep.LoopGhost
import Derived.Deep.RegionHeld3
import Derived.Test.YtleenphlgbklmabGreatDoorXPSt
import Derived.Test.YtleenphlgbklmabGreatDoorXTree
import Derived.Test.YtleenphlgbklmabGreatDoorXPDep
import Derived.Deep.RegionHeld2
set_option linter.unusedVariables false
set_option linter.unusedSimpArgs false
namespace Go.Proofs.YtleenphlgbklmabGreatDoor
open Go.RowKit

theorem SX.lt {w : World} {ad : List Nat} {σ : St} (hs : SX w ad σ) {b : Nat} (hb : b ∈ ad) : b < w.heap.size := by
  obtain ⟨τ, h1, _⟩ := hs
  obtain ⟨o, ho, _⟩ := h1.tb hb
  exact lt_of_block ho
/-- what a call that makes types leaves. -/
structure Gw (S : Nat → Prop) (ad ad' : List Nat) (w w' : World) : Prop where
  up : ∃ u, ad' = ad ++ u ∧ ∀ q, q ∈ u → w.heap.size ≤ q
  kt : Kt ad S w w'
theorem Gw.of {S : Nat → Prop} {ad : List Nat} {w w' : World} (k : Kt ad S w w') : Gw S ad ad w w' := ⟨⟨[], by simp, by simp⟩, k⟩
end Go.Proofs.YtleenphlgbklmabGreatDoor

namespace Go.Proofs.YtleenphlgbklmabGreatDoor
open Go.RowKit

/-- the map of what names stand for: a list of pairs, in the order in which they came. -/
def kAt (kv : List (ByteArray × ByteArray)) (j : Nat) : ByteArray × ByteArray := kv.getD j ({ data := #[] }, { data := #[] })
def tEnt (kv : List (ByteArray × ByteArray)) (j : Nat) : MapEntry := { key := .string (kAt kv j).1, val := .agg #[.string (kAt kv j).2], born := j }
def tEs (kv : List (ByteArray × ByteArray)) : Array MapEntry := ((List.range kv.length).map (tEnt kv)).toArray
structure SM (w : World) (mb : Nat) (kv : List (ByteArray × ByteArray)) : Prop where
  mp : w.heap[mb]? = some (.map (tEs kv) kv.length)
  nd : (kv.map Prod.fst).Nodup
theorem tEs_snoc (kv : List (ByteArray × ByteArray)) (nm x : ByteArray) : (tEs kv).push { key := .string nm, val := .agg #[.string x], born := kv.length } = tEs (kv ++ [(nm, x)]) := by
  unfold tEs
  rw [List.length_append, List.length_singleton, List.range_succ, List.map_append]
  have e1 : (List.range kv.length).map (tEnt kv) = (List.range kv.length).map (tEnt (kv ++ [(nm, x)])) := by
    apply List.map_congr_left
    intro j hj
    have hj : j < kv.length := List.mem_range.1 hj
    simp [tEnt, kAt, List.getD, List.getElem?_append_left hj]
  have e2 : tEnt (kv ++ [(nm, x)]) kv.length = { key := .string nm, val := .agg #[.string x], born := kv.length } := by
    simp [tEnt, kAt, List.getD]
  rw [e1]
  simp [e2]
theorem tEs_get (kv : List (ByteArray × ByteArray)) (j : Nat) : (tEs kv).toList[j]? = if j < kv.length then some (tEnt kv j) else none := by
  simp only [tEs]
  by_cases h : j < kv.length
  · simp [h]
  · simp [h]
theorem find_ts (kv : List (ByteArray × ByteArray)) (nm : ByteArray) (hn : (kv.map Prod.fst).Nodup) : Instr.findNow .string (.string nm) (tEs kv).toList 0 = some ((kv.findIdx? (fun x => sameS x.1 nm)).map fun j => (j, .agg #[.string (kAt kv j).2])) := by
  have hk : MapKept.IsKey .string (.string nm) := by simp [MapKept.IsKey]
  have hall : ∀ x, x ∈ (tEs kv).toList → MapKept.IsKey .string x.key := fun x hx => by
    simp only [tEs, List.mem_map] at hx
    obtain ⟨j, _, rfl⟩ := hx
    simp [tEnt, MapKept.IsKey]
  have gd : ∀ j (h : j < kv.length), kAt kv j = kv[j] := fun j h => by simp [kAt, List.getD, h]
  rcases MapKept.findNow_spec hk (tEs kv).toList 0 hall with ⟨h1, h2⟩ | ⟨j, e, h1, h2, h3⟩
  · have : kv.findIdx? (fun x => sameS x.1 nm) = none := by
      rw [List.findIdx?_eq_none_iff]
      intro x hx
      obtain ⟨j, hj, rfl⟩ := List.getElem_of_mem hx
      rw [Bool.eq_false_iff]
      intro q
      have q := (sameS_iff _ _).1 q
      have hm : tEnt kv j ∈ (tEs kv).toList := by
        simp only [tEs, List.mem_map]
        exact ⟨j, by simpa using hj, rfl⟩
      refine h2 _ hm ?_
      simp only [tEnt]
      rw [gd j hj, q]
    rw [h1, this]
    rfl
  · rw [tEs_get] at h2
    by_cases hj : j < kv.length
    · rw [if_pos hj] at h2
      obtain rfl := Option.some.inj h2
      have q : kv[j].1 = nm := by
        simp only [tEnt] at h3
        rw [gd j hj] at h3
        injection h3
      have : kv.findIdx? (fun x => sameS x.1 nm) = some j := by
        rw [List.findIdx?_eq_some_iff_getElem]
        refine ⟨hj, (sameS_iff _ _).2 q, ?_⟩
        intro i hi z
        have z := (sameS_iff _ _).1 z
        have := (List.pairwise_iff_getElem.1 hn) i j (by simp; omega) (by simpa using hj) hi
        simp at this
        exact this (z.trans q.symm)
      rw [h1, this]
      simp [tEnt]
    · rw [if_neg hj] at h2
      cases h2
theorem Tryz.zeroTyped (w : World) : (zeroValue 68).run Tryz.prog w = .ok (.agg #[.string { data := #[] }]) w := by kernel_rfl
theorem run_tlook (M : TypeId) (hM : Tryz.prog.underlying M = some (.map 9 68)) (w : World) (mb : Nat) (kv : List (ByteArray × ByteArray)) (nm : ByteArray) (h : SM w mb kv) :
    (Instr.lookup M (.map (some mb)) (.string nm) true).run Tryz.prog w = .ok (match kv.findIdx? (fun x => sameS x.1 nm) with | some j => .tuple #[.agg #[.string (kAt kv j).2], .bool true] | none => .tuple #[.agg #[.string { data := #[] }], .bool false]) w := by
  have hf := find_ts kv nm h.nd
  have hc : ∀ e, (Instr.checkKey e 10000 9 (.string nm)).run Tryz.prog w = .ok () w := fun e => MapKept.run_checkKey Tryz.underlying9 (by simp [MapKept.IsKey]) e 9999
  have hz := Tryz.zeroTyped w
  simp only [Instr.lookup, Sem.run_bind, run_underlying hM, MapKept.run_getObj_map h.mp, Result.andThen, Sem.run_pure, hc, MapKept.run_findKey Tryz.underlying9 hf]
  cases kv.findIdx? (fun x => sameS x.1 nm) with
  | none => simp [hz, Result.andThen]
  | some j => simp
theorem run_tlook1 (M : TypeId) (hM : Tryz.prog.underlying M = some (.map 9 68)) (w : World) (mb : Nat) (kv : List (ByteArray × ByteArray)) (nm : ByteArray) (h : SM w mb kv) :
    (Instr.lookup M (.map (some mb)) (.string nm) false).run Tryz.prog w = .ok (match kv.findIdx? (fun x => sameS x.1 nm) with | some j => .agg #[.string (kAt kv j).2] | none => .agg #[.string { data := #[] }]) w := by
  have hf := find_ts kv nm h.nd
  have hc : ∀ e, (Instr.checkKey e 10000 9 (.string nm)).run Tryz.prog w = .ok () w := fun e => MapKept.run_checkKey Tryz.underlying9 (by simp [MapKept.IsKey]) e 9999
  have hz := Tryz.zeroTyped w
  simp only [Instr.lookup, Sem.run_bind, run_underlying hM, MapKept.run_getObj_map h.mp, Result.andThen, Sem.run_pure, hc, MapKept.run_findKey Tryz.underlying9 hf]
  cases kv.findIdx? (fun x => sameS x.1 nm) with
  | none => simp [hz, Result.andThen]
  | some j => simp
theorem run_tput (M : TypeId) (hM : Tryz.prog.underlying M = some (.map 9 68)) (w : World) (mb : Nat) (kv : List (ByteArray × ByteArray)) (nm x : ByteArray) (h : SM w mb kv) (hj : kv.findIdx? (fun x => sameS x.1 nm) = none) :
    (Instr.mapUpdate M (.map (some mb)) (.string nm) (.agg #[.string x])).run Tryz.prog w = .ok () (mapSet w mb (.map (tEs (kv ++ [(nm, x)])) (kv.length + 1))) := by
  have hf := find_ts kv nm h.nd
  rw [hj] at hf
  have hf : Instr.findNow .string (.string nm) (tEs kv).toList 0 = some none := hf
  have hc : (Instr.checkKey false 10000 9 (.string nm)).run Tryz.prog w = .ok () w := MapKept.run_checkKey Tryz.underlying9 (by simp [MapKept.IsKey]) false 9999
  rw [← tEs_snoc kv]
  simp [mapSet, Instr.mapUpdate, run_underlying hM, MapKept.run_getObj_map h.mp, hc, MapKept.run_findKey Tryz.underlying9 hf, MapKept.run_setObj_map _ h.mp, Result.andThen]
theorem SM.put {w : World} {mb : Nat} {kv : List (ByteArray × ByteArray)} (h : SM w mb kv) (nm x : ByteArray) (hj : kv.findIdx? (fun x => sameS x.1 nm) = none) : SM (mapSet w mb (.map (tEs (kv ++ [(nm, x)])) (kv.length + 1))) mb (kv ++ [(nm, x)]) := by
  refine ⟨?_, ?_⟩
  · rw [mapSet_same _ _ _ (lt_of_block h.mp)]
    simp
  · rw [List.map_append, List.nodup_append]
    refine ⟨h.nd, by simp, ?_⟩
    intro a ha b hb
    simp at hb
    subst hb
    rw [List.findIdx?_eq_none_iff] at hj
    obtain ⟨y, hy, rfl⟩ := List.mem_map.1 ha
    intro z
    have := hj y hy
    rw [Bool.eq_false_iff] at this
    exact this ((sameS_iff _ _).2 z)
theorem SM.kp {w w' : World} {mb : Nat} {kv : List (ByteArray × ByteArray)} {P : Nat → Prop} (h : SM w mb kv) (hk : Kp P w w') (hn : ¬ P mb) : SM w' mb kv := ⟨hk.blk h.mp hn, h.nd⟩
end Go.Proofs.YtleenphlgbklmabGreatDoor

namespace Go.Proofs.YtleenphlgbklmabGreatDoor
open Go.RowKit

/-- a map of names to types. -/
def gE : List (ByteArray × Value) → Nat → List MapEntry
  | [], _ => []
  | e :: l, i => { key := .string e.1, val := e.2, born := i } :: gE l (i + 1)
theorem gE_snoc (l : List (ByteArray × Value)) (e : ByteArray × Value) : ∀ i, gE (l ++ [e]) i = gE l i ++ [{ key := .string e.1, val := e.2, born := i + l.length }] := by
  induction l with
  | nil => intro i; simp [gE]
  | cons c l ih =>
    intro i
    have e : i + 1 + l.length = i + (l.length + 1) := by omega
    simp [gE, ih, e]
def askS (n : ByteArray) : List (ByteArray × Value) → Nat → Option (Nat × Value)
  | [], _ => none
  | e :: l, i => if bq n e.1 then some (i, e.2) else askS n l (i + 1)
theorem bq_eq (a b : ByteArray) : bq a b = decide (a = b) := by
  by_cases h : a = b
  · simp [h, bq_iff.2 rfl]
  · have : bq a b = false := by rw [Bool.eq_false_iff]; exact fun z => h (bq_iff.1 z)
    simp [h, this]
theorem ba_beq (a b : ByteArray) : (a == b) = decide (a = b) := by
  have h : (a == b) = (a.data == b.data) := rfl
  rw [h]
  by_cases e : a = b
  · subst e; simp
  · have : a.data ≠ b.data := fun z => e (ByteArray.ext z)
    simp [e, this]
theorem find_gs (n : ByteArray) (l : List (ByteArray × Value)) : ∀ i, Instr.findNow .string (.string n) (gE l i) i = some (askS n l i) := by
  induction l with
  | nil => intro i; rfl
  | cons c l ih =>
    intro i
    have h := ih (i + 1)
    by_cases e : n = c.1
    · have e1 : (n == c.1) = true := by rw [ba_beq]; simp [e]
      simp only [gE, Instr.findNow, Instr.sameNow, askS, bq_eq, e1]
      simp [e]
    · have e1 : (n == c.1) = false := by rw [ba_beq]; simp [e]
      simp only [gE, Instr.findNow, Instr.sameNow, askS, bq_eq, e1, h]
      simp [e]
def GB (ad : List Nat) : Gv → List (ByteArray × Value) → Prop
  | [], [] => True
  | e :: g, c :: l => e.1 = c.1 ∧ RV ad e.2 c.2 ∧ GB ad g l
  | _, _ => False
theorem GB.up {ad : List Nat} (u : List Nat) : ∀ {g : Gv} {l : List (ByteArray × Value)}, GB ad g l → GB (ad ++ u) g l
  | [], [], _ => trivial
  | e :: g, c :: l, h => ⟨h.1, h.2.1.up u, h.2.2.up u⟩
  | [], _ :: _, h => h.elim
  | _ :: _, [], h => h.elim
theorem GB.snoc {ad : List Nat} {n : ByteArray} {r : TR} {v : Value} (hv : RV ad r v) : ∀ {g : Gv} {l : List (ByteArray × Value)}, GB ad g l → GB ad (g ++ [(n, r)]) (l ++ [(n, v)])
  | [], [], _ => ⟨rfl, hv, trivial⟩
  | e :: g, c :: l, h => ⟨h.1, h.2.1, GB.snoc hv h.2.2⟩
  | [], _ :: _, h => h.elim
  | _ :: _, [], h => h.elim
theorem GB.look {ad : List Nat} {n : ByteArray} : ∀ {g : Gv} {l : List (ByteArray × Value)} (k : Nat), GB ad g l → (∀ r, findG n g = some r → ∃ p v, askS n l k = some (p, v) ∧ RV ad r v) ∧ (findG n g = none → askS n l k = none)
  | [], [], k, _ => ⟨fun r h => by simp [findG] at h, fun _ => rfl⟩
  | e :: g, c :: l, k, h => by
    have ih := GB.look (n := n) (k + 1) h.2.2
    simp only [findG, askS, h.1]
    split
    · exact ⟨fun r hr => by
        simp only [Option.some.injEq] at hr
        subst hr
        exact ⟨_, _, rfl, h.2.1⟩, fun z => by simp at z⟩
    · exact ih
  | [], _ :: _, _, h => h.elim
  | _ :: _, [], _, h => h.elim
/-- the given names lie in memory. -/
def GM (w : World) (gm : Nat) (ad : List Nat) (g : Gv) : Prop := ∃ l, w.heap[gm]? = some (.map (gE l 0).toArray l.length) ∧ GB ad g l
theorem GM.kt {w w' : World} {gm : Nat} {ad ad2 : List Nat} {g : Gv} {S : Nat → Prop} (h : GM w gm ad g) (k : Kt ad2 S w w') (hS : ¬ S gm) : GM w' gm ad g := by
  obtain ⟨l, h1, h2⟩ := h
  exact ⟨l, k.blk _ _ h1 hS (by rintro ⟨cs, e, f, he, _⟩; cases he), h2⟩
theorem GM.up {w : World} {gm : Nat} {ad : List Nat} {g : Gv} (h : GM w gm ad g) (u : List Nat) : GM w gm (ad ++ u) g := by
  obtain ⟨l, h1, h2⟩ := h
  exact ⟨l, h1, h2.up u⟩
/-- the names that were bound, the innermost first. -/
def CH (w : World) (R : TR → Value → Prop) : List Bd → Value → Prop
  | [], v => v = .pointer none
  | b :: bs, v => ∃ q tv nx, v = .pointer (some ⟨q, 0, none⟩) ∧ w.heap[q]? = some (.cells #[.string b.name, tv, .bool b.par, nx] 287 (0, 0)) ∧ R b.ty tv ∧ CH w R bs nx
theorem CH.keep {w w' : World} {R : TR → Value → Prop} (hk : ∀ (q : Nat) (cs : Array Value) (f : Nat × Nat), w.heap[q]? = some (.cells cs 287 f) → w'.heap[q]? = some (.cells cs 287 f)) : ∀ {l : List Bd} {v : Value}, CH w R l v → CH w' R l v
  | [], _, h => h
  | b :: bs, v, ⟨q, tv, nx, h1, h2, h3, h4⟩ => ⟨q, tv, nx, h1, hk _ _ _ h2, h3, CH.keep hk h4⟩
theorem CH.mono {w : World} {R R' : TR → Value → Prop} (hR : ∀ r v, R r v → R' r v) : ∀ {l : List Bd} {v : Value}, CH w R l v → CH w R' l v
  | [], _, h => h
  | b :: bs, v, ⟨q, tv, nx, h1, h2, h3, h4⟩ => ⟨q, tv, nx, h1, h2, hR _ _ h3, CH.mono hR h4⟩
end Go.Proofs.YtleenphlgbklmabGreatDoor

namespace Go.Proofs.YtleenphlgbklmabGreatDoor
open Go.RowKit

section
variable {ω : Type} (tl : List ByteArray → Nat → List TR → St → ω → Option (Oc Unit × ω))
end
/-- a type's tree; variables by their place in the store. -/
def treeF : Nat → St → TR → Option Ty
  | 0, _, _ => none
  | n + 1, σ, r => (repF 500 σ r).bind fun r0 => match r0 with
    | .int => some (.mk { data := #[105, 110, 116] } 0 [])
    | .bool => some (.mk { data := #[98, 111, 111, 108] } 0 [])
    | .nd _ i => match σ[i]? with
      | some ⟨.vr _ _, none⟩ => some (.mk { data := #[] } i [])
      | some ⟨.ls x, none⟩ => (treeF n σ x).bind fun a => some (.mk { data := #[108, 105, 115, 116] } 0 [a])
      | some ⟨.pr x y, none⟩ => (treeF n σ x).bind fun a => (treeF n σ y).bind fun c => some (.mk { data := #[112, 97, 105, 114] } 0 [a, c])
      | some ⟨.ar x y, none⟩ => (treeF n σ x).bind fun a => (treeF n σ y).bind fun c => some (.mk { data := #[102, 117, 110] } 0 [a, c])
      | _ => none
end Go.Proofs.YtleenphlgbklmabGreatDoor

namespace Go.Proofs.YtleenphlgbklmabGreatDoor
open Go.RowKit

/-- a block of the watcher's. -/
def WB (o : Obj) : Prop := ∃ cs e f, o = .cells cs e f ∧ (e = 39 ∨ e = 36)
/-- all is as it was, but for the store's types and the watcher's blocks. -/
structure Kw (B : Nat) (ad : List Nat) (w w' : World) : Prop where
  os : w'.os = w.os
  output : w'.output = w.output
  size : w.heap.size ≤ w'.heap.size
  blk : ∀ (k : Nat) (o : Obj), w.heap[k]? = some o → (WB o → k < B) → (TB o → ¬ k ∈ ad) → w'.heap[k]? = some o
theorem Kw.of {B : Nat} {ad : List Nat} {w w' : World} (h : Kt ad (fun _ => False) w w') : Kw B ad w w' := ⟨h.os, h.output, h.size, fun k o hk _ ht => h.blk0 k o hk id ht⟩
/-- what a call that types leaves. -/
structure Gk (B : Nat) (ad ad' : List Nat) (w w' : World) : Prop where
  up : ∃ u, ad' = ad ++ u ∧ ∀ q, q ∈ u → w.heap.size ≤ q
  kw : Kw B ad w w'
theorem Gk.of {B : Nat} {ad ad' : List Nat} {w w' : World} (h : Gw (fun _ => False) ad ad' w w') : Gk B ad ad' w w' := ⟨h.up, Kw.of h.kt⟩
theorem Gk.ofKt {B : Nat} {ad : List Nat} {w w' : World} (h : Kt ad (fun _ => False) w w') : Gk B ad ad w w' := Gk.of (Gw.of h)
theorem Gk.ofKw {B : Nat} {ad : List Nat} {w w' : World} (h : Kw B ad w w') : Gk B ad ad w w' := ⟨⟨[], by simp, by simp⟩, h⟩
theorem Gk.trans {B : Nat} {a b c : List Nat} {w1 w2 w3 : World} (h : Gk B a b w1 w2) (g : Gk B b c w2 w3) : Gk B a c w1 w3 := by
  obtain ⟨⟨u, rfl, hu⟩, k⟩ := h
  obtain ⟨⟨u2, rfl, hu2⟩, k2⟩ := g
  refine ⟨⟨u ++ u2, by simp, ?_⟩, ⟨k2.os.trans k.os, k2.output.trans k.output, Nat.le_trans k.size k2.size, ?_⟩⟩
  · intro q hq
    simp at hq
    rcases hq with hq | hq
    · exact hu q hq
    · exact Nat.le_trans k.size (hu2 q hq)
  · intro q o hq hw ht
    refine k2.blk q o (k.blk q o hq hw ht) hw (fun z y => ?_)
    simp at y
    rcases y with y | y
    · exact ht z y
    · have := hu q y
      have := lt_of_block hq
      omega
theorem Gk.rv {B : Nat} {a b : List Nat} {w1 w2 : World} (h : Gk B a b w1 w2) {r : TR} {v : Value} (hv : RV a r v) : RV b r v := by
  obtain ⟨⟨u, rfl, hu⟩, _⟩ := h
  exact hv.up u
theorem Gk.ga {A : Nat → Addr} {B : Nat} {a b : List Nat} {w1 w2 : World} (h : Gk B a b w1 w2) (g : GA A B a w1) : GA A B b w2 := by
  obtain ⟨⟨u, rfl, hu⟩, k⟩ := h
  have h1 : GA A B a w2 := g.low k.size (fun q hq => by
    have e : w1.heap[q]? = some (w1.heap[q]'(Nat.lt_of_lt_of_le hq g.sz)) := by simp
    rw [e]
    exact k.blk q _ e (fun _ => hq) (fun _ z => by have := g.lo q z; omega))
  exact ⟨h1.glb, fun q hq => by
    simp at hq
    rcases hq with hq | hq
    · exact g.lo q hq
    · exact Nat.le_trans g.sz (hu q hq), h1.sz, h1.ab, h1.gb⟩
theorem Gk.ch {B : Nat} {a b : List Nat} {w1 w2 : World} (h : Gk B a b w1 w2) {l : List Bd} {v : Value} (hc : CH w1 (RV a) l v) : CH w2 (RV b) l v := by
  have := hc.keep (w' := w2) (fun q cs f hq => h.kw.blk q _ hq (by
    rintro ⟨cs', e', f', hx, ht⟩
    simp only [Obj.cells.injEq] at hx
    obtain ⟨_, rfl, _⟩ := hx
    rcases ht with e | e <;> cases e) (by
    rintro ⟨cs', e', f', hx, ht⟩
    simp only [Obj.cells.injEq] at hx
    obtain ⟨_, rfl, _⟩ := hx
    rcases ht with e | e | e | e <;> cases e))
  exact this.mono (fun r v => h.rv)
theorem Gk.gm {B : Nat} {a b : List Nat} {w1 w2 : World} (h : Gk B a b w1 w2) {g : Gv} {gm : Nat} (hg : GM w1 gm a g) : GM w2 gm b g := by
  obtain ⟨⟨u, rfl, hu⟩, k⟩ := h
  obtain ⟨l, h1, h2⟩ := hg
  exact ⟨l, k.blk _ _ h1 (by rintro ⟨cs, e, f, he, _⟩; cases he) (by rintro ⟨cs, e, f, he, _⟩; cases he), h2.up u⟩
section
variable {ω : Type} (A : Nat → Addr) (B : Nat) (K : World → ω → Prop)
/-- what stands when an expression is typed. -/
structure TI (w : World) (ad : List Nat) (σ : St) (own : List Bd) (gv : Gv) (p : Option Addr) (gm : Nat) (o : ω) : Prop where
  sx : SX w ad σ
  ws : WS σ
  ga : GA A B ad w
  ch : CH w (RV ad) own (.pointer p)
  gm : GM w gm ad gv
  k : K w o
/-- the watcher keeps what it has, while types are made. -/
def KOk : Prop := ∀ (w w' : World) (ad : List Nat) (o : ω), K w o → Kt ad (fun _ => False) w w' → K w' o
/-- how a call that types ends. -/
def TyO (ad : List Nat) (w : World) (e : Ending) (w' : World) (o : ω) : Oc (TR × St) → Prop
  | .ok q => ∃ v ad', e = .returned v ∧ RV ad' q.1 v ∧ SX w' ad' q.2 ∧ WS q.2 ∧ K w' o ∧ Gk B ad ad' w w'
  | .er j => Thr A j e ∧ K w' o ∧ Kw B ad w w'
end
section
variable {ω : Type} {A : Nat → Addr} {B : Nat} {K : World → ω → Prop} {w w' : World} {ad ad' : List Nat} {σ σ' : St} {own : List Bd} {gv : Gv} {p : Option Addr} {gm : Nat} {o o' : ω}
theorem TI.to (h : TI A B K w ad σ own gv p gm o) (g : Gk B ad ad' w w') (hs : SX w' ad' σ') (hw : WS σ') (hk : K w' o') : TI A B K w' ad' σ' own gv p gm o' := ⟨hs, hw, g.ga h.ga, g.ch h.ch, g.gm h.gm, hk⟩
theorem TI.kept (hK : KOk K) (h : TI A B K w ad σ own gv p gm o) (k : Kept w w') : TI A B K w' ad σ own gv p gm o := h.to (Gk.ofKt (Kt.of_kept k)) (h.sx.kept k) h.ws (hK _ _ [] _ h.k (Kt.of_kept k))
theorem TyO.pre {e : Ending} {r : Oc (TR × St)} {w1 : World} {ad1 : List Nat} (g : Gk B ad ad1 w w1) (h : TyO A B K ad1 w1 e w' o r) : TyO A B K ad w e w' o r := by
  cases r with
  | ok q =>
    obtain ⟨v, ad', h1, h2, h3, h4, h5, h6⟩ := h
    exact ⟨v, ad', h1, h2, h3, h4, h5, g.trans h6⟩
  | er j =>
    obtain ⟨h1, h2, h3⟩ := h
    exact ⟨h1, h2, (g.trans (Gk.ofKw h3)).kw⟩
end
def RbO (A : Nat → Addr) (ad : List Nat) (σ : St) (w : World) (big : Bool) (e : Ending) (w' : World) : Prop := (big = true ∧ Thr A 4 e ∧ Kt ad (fun _ => False) w w') ∨ (big = false ∧ e = .returned (.tuple #[]) ∧ SX w' ad σ ∧ Kt ad (fun _ => False) w w')
set_option maxRecDepth 20000 in
theorem rbig_sx {A : Nat → Addr} {B : Nat} {σ : St} {r : TR} {big : Bool} (h : bigF σ r = some big) (w : World) (ad : List Nat) (v : Value) (hG : GA A B ad w) (hs : SX w ad σ) (hv : RV ad r v) : Calls Tryz.prog 107 #[v] w (RbO A ad σ w big) := by
  have HA : Hid _ := above_sx h w ad v hs hv
  have HG : Hid _ := hG
  obtain ⟨T, u, rfl⟩ := hv.iface
  clear hs hv h hG
  go_enter Tryz.func107, Tryz.ntmps107
  go_wp2_with fail
  refine Calls.mono HA.out ?_
  rintro e w1 ⟨rfl, hs1, hk1⟩
  have hg := (HG.out.kt0 hk1).glb.c4
  have HS : Hid _ := hs1
  have HK : Hid _ := hk1
  clear hs1 hk1 HA
  cases big with
  | true =>
    have HR : Hid _ := prefuse_es (A 4) w1
    go_wp2_with fail
    refine Calls.mono HR.out ?_
    rintro e w' ⟨rfl, hww⟩
    rw [hww]
    clear hww w' HR
    go_wp2
    exact ⟨rfl, .inl ⟨rfl, rfl, HK.out⟩⟩
  | false =>
    go_wp2
    exact bodyPost_end (results_none Tryz.results107 _ _ _) rfl (.inr ⟨rfl, rfl, HS.out, HK.out⟩)
end Go.Proofs.YtleenphlgbklmabGreatDoor

namespace Go.Proofs.YtleenphlgbklmabGreatDoor
open Go.RowKit

/-- a kind of block that typing does not change. -/
def othT (e : TypeId) : Bool := !(e == 148 || e == 152 || e == 156 || e == 160 || e == 39 || e == 36)
theorem Gk.oth {B : Nat} {a b : List Nat} {w1 w2 : World} (h : Gk B a b w1 w2) {k : Nat} {cs : Array Value} {e : TypeId} {f : Nat × Nat} (he : othT e = true) (hk : w1.heap[k]? = some (.cells cs e f)) : w2.heap[k]? = some (.cells cs e f) := h.kw.blk k _ hk (by
    rintro ⟨cs', e', f', hx, ht⟩
    simp only [Obj.cells.injEq] at hx
    obtain ⟨_, rfl, _⟩ := hx
    rcases ht with rfl | rfl <;> simp [othT] at he) (by
    rintro ⟨cs', e', f', hx, ht⟩
    simp only [Obj.cells.injEq] at hx
    obtain ⟨_, rfl, _⟩ := hx
    rcases ht with rfl | rfl | rfl | rfl <;> simp [othT] at he)
/-- a frame of typing: what it was handed, and the expression. -/
structure FX (V : World) (b1 b2 eb : Nat) (fl : Int) (wv : Value) (p : Option Addr) (gm : Nat) (cs : Array Value) (et : TypeId) : Prop where
  by0 : V.heap[b1]? = some (.cells #[.int .i64 fl, wv] 103 (0, 0))
  sc : V.heap[b2]? = some (.cells #[.pointer p, .map (some gm)] 168 (0, 0))
  ex : V.heap[eb]? = some (.cells cs et (0, 0))
section
variable {V V' : World} {b1 b2 eb : Nat} {fl : Int} {wv : Value} {p : Option Addr} {gm : Nat} {cs : Array Value} {et : TypeId}
end
section
variable {ω : Type} (A : Nat → Addr) (B : Nat) (K : World → ω → Prop) (gv : Gv) (fl : Int) (wv : Value)
end
end Go.Proofs.YtleenphlgbklmabGreatDoor
