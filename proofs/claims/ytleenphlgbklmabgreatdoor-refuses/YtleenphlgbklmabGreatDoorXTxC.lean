import Derived.LaidEql
import Derived.Test.YtleenphlgbklmabGreatDoorXPSt
import Derived.Test.YtleenphlgbklmabGreatDoorXTree
import Derived.Test.YtleenphlgbklmabGreatDoorXWCanon
set_option linter.unusedVariables false
set_option linter.unusedSimpArgs false
namespace Go.Proofs.YtleenphlgbklmabGreatDoor
open Go.RowKit

theorem eq_ptr (T E : TypeId) (n : Nat) (hu : Tryz.prog.underlying T = some (.pointer E)) (hs : (Tryz.prog.info? E).map (·.size) = some (n + 1)) (hc : (Tryz.prog.info? T).map (·.comparable) = some true) (w : World) (b c : Nat) (hb : ∃ cs e, w.heap[b]? = some (.cells cs e (0, 0))) (hd : ∃ cs e, w.heap[c]? = some (.cells cs e (0, 0))) :
    (Op.equal 77 (.iface T (.pointer (some ⟨b, 0, none⟩))) (.iface T (.pointer (some ⟨c, 0, none⟩)))).run Tryz.prog w = .ok (b == c) w := by
  obtain ⟨j, hj, hjs⟩ := Option.map_eq_some_iff.1 hs
  obtain ⟨i, hi, his⟩ := Option.map_eq_some_iff.1 hc
  obtain ⟨cs, e, hb⟩ := hb
  obtain ⟨cs', e', hd⟩ := hd
  have h : ∀ d : Nat, (Op.equalIn (d + 1) T (.pointer (some ⟨b, 0, none⟩)) (.pointer (some ⟨c, 0, none⟩))).run Tryz.prog w = .ok (b == c) w := fun d => by
    by_cases e : b = c
    · subst e
      simp [Op.equalIn, run_underlying hu, sizeOf, typeInfo, hj, hjs, run_sameAddr_same]
    · have ho := run_sameAddr_other (P := Tryz.prog) (w := w) (a := ⟨b, 0, none⟩) (b := ⟨c, 0, none⟩) (fun q => e (congrArg Addr.block q)) hb hd
      simp [Op.equalIn, run_underlying hu, sizeOf, typeInfo, hj, hjs, ho, e]
  have h2 : ∀ d : Nat, (Op.equalIn (d + 2) 77 (.iface T (.pointer (some ⟨b, 0, none⟩))) (.iface T (.pointer (some ⟨c, 0, none⟩)))).run Tryz.prog w = .ok (b == c) w := fun d => by
    rw [show d + 2 = (d + 1) + 1 from rfl]
    rw [Op.equalIn]
    simp [run_underlying Tryz.underlying77, typeInfo, hi, his, h d]
  exact h2 9998
theorem eq_kd (k : Kd) (w : World) (b c : Nat) (hb : ∃ cs e, w.heap[b]? = some (.cells cs e (0, 0))) (hd : ∃ cs e, w.heap[c]? = some (.cells cs e (0, 0))) :
    (Op.equal 77 (.iface k.tp (.pointer (some ⟨b, 0, none⟩))) (.iface k.tp (.pointer (some ⟨c, 0, none⟩)))).run Tryz.prog w = .ok (b == c) w := by
  cases k
  · exact eq_ptr _ 148 2 (by kernel_rfl) (by kernel_rfl) (by kernel_rfl) w b c hb hd
  · exact eq_ptr _ 152 1 (by kernel_rfl) (by kernel_rfl) (by kernel_rfl) w b c hb hd
  · exact eq_ptr _ 156 2 (by kernel_rfl) (by kernel_rfl) (by kernel_rfl) w b c hb hd
  · exact eq_ptr _ 160 2 (by kernel_rfl) (by kernel_rfl) (by kernel_rfl) w b c hb hd
theorem eq_no (T U : TypeId) (h : T ≠ U) (x y : Value) (w : World) : (Op.equal 77 (.iface T x) (.iface U y)).run Tryz.prog w = .ok false w := by
  have h2 : ∀ d : Nat, (Op.equalIn (d + 1) 77 (.iface T x) (.iface U y)).run Tryz.prog w = .ok false w := fun d => by
    rw [Op.equalIn]
    simp [run_underlying Tryz.underlying77, h]
  exact h2 9999
theorem Tryz.eqII (w : World) : (Op.equal 77 (.iface 271 (.agg #[.string { data := #[105, 110, 116] }])) (.iface 271 (.agg #[.string { data := #[105, 110, 116] }]))).run Tryz.prog w = .ok true w := by kernel_rfl
theorem Tryz.eqIB (w : World) : (Op.equal 77 (.iface 271 (.agg #[.string { data := #[105, 110, 116] }])) (.iface 271 (.agg #[.string { data := #[98, 111, 111, 108] }]))).run Tryz.prog w = .ok false w := by kernel_rfl
theorem Tryz.eqBI (w : World) : (Op.equal 77 (.iface 271 (.agg #[.string { data := #[98, 111, 111, 108] }])) (.iface 271 (.agg #[.string { data := #[105, 110, 116] }]))).run Tryz.prog w = .ok false w := by kernel_rfl
theorem Tryz.eqBB (w : World) : (Op.equal 77 (.iface 271 (.agg #[.string { data := #[98, 111, 111, 108] }])) (.iface 271 (.agg #[.string { data := #[98, 111, 111, 108] }]))).run Tryz.prog w = .ok true w := by kernel_rfl
theorem Kd.tp_inj {k l : Kd} (h : k ≠ l) : k.tp ≠ l.tp := by cases k <;> cases l <;> first | exact absurd rfl h | (intro e; cases e)
theorem Kd.tp_basic (k : Kd) : k.tp ≠ 271 := by cases k <;> (intro e; cases e)
theorem SW.cells {w : World} {ad : List Nat} {τ : St} (h : SW w ad τ) {i b : Nat} (hb : ad[i]? = some b) : ∃ cs e, w.heap[b]? = some (.cells cs e (0, 0)) := by
  obtain ⟨_, _, _, _, o, _, _, h1, _, h2⟩ := h.mem (List.mem_of_getElem? hb)
  obtain ⟨cs, e, rfl, _⟩ := h2.first
  exact ⟨cs, e, h1⟩
theorem nodup_get {ad : List Nat} (h : ad.Nodup) {i j b : Nat} (hi : ad[i]? = some b) (hj : ad[j]? = some b) : i = j := by
  obtain ⟨l1, e1⟩ := List.getElem?_eq_some_iff.1 hi
  obtain ⟨l2, e2⟩ := List.getElem?_eq_some_iff.1 hj
  have hp := List.pairwise_iff_getElem.1 h
  rcases Nat.lt_trichotomy i j with q | q | q
  · exact (hp i j l1 l2 q (by rw [e1, e2])).elim
  · exact q
  · exact (hp j i l2 l1 q (by rw [e1, e2])).elim
/-- two types are the same value just if they are the same. -/
theorem eq_tr {w : World} {ad : List Nat} {τ : St} (h : SW w ad τ) {r s : TR} {v u : Value} (hv : RV ad r v) (hu : RV ad s u) : (Op.equal 77 v u).run Tryz.prog w = .ok (r.eqb s) w := by
  cases r with
  | int =>
    rw [show v = _ from hv]
    cases s with
    | int => rw [show u = _ from hu]; exact Tryz.eqII w
    | bool => rw [show u = _ from hu]; exact Tryz.eqIB w
    | nd k i => obtain ⟨b, _, rfl⟩ := hu; exact eq_no _ _ k.tp_basic.symm _ _ w
  | bool =>
    rw [show v = _ from hv]
    cases s with
    | int => rw [show u = _ from hu]; exact Tryz.eqBI w
    | bool => rw [show u = _ from hu]; exact Tryz.eqBB w
    | nd k i => obtain ⟨b, _, rfl⟩ := hu; exact eq_no _ _ k.tp_basic.symm _ _ w
  | nd k i =>
    obtain ⟨b, hb, rfl⟩ := hv
    cases s with
    | int => rw [show u = _ from hu]; exact eq_no _ _ k.tp_basic _ _ w
    | bool => rw [show u = _ from hu]; exact eq_no _ _ k.tp_basic _ _ w
    | nd l j =>
      obtain ⟨c, hc, rfl⟩ := hu
      by_cases e : k = l
      · subst e
        rw [eq_kd k w b c (h.cells hb) (h.cells hc)]
        congr 1
        rw [Bool.eq_iff_iff, TR.eqb_iff, beq_iff_eq]
        constructor
        · intro e
          subst e
          rw [nodup_get h.inj hb hc]
        · intro e
          simp only [TR.nd.injEq, true_and] at e
          subst e
          rw [hb] at hc
          simpa using hc
      · rw [eq_no _ _ (Kd.tp_inj e)]
        congr 1
        symm
        rw [TR.eqb_ff]
        intro q
        simp only [TR.nd.injEq] at q
        exact e q.1
theorem ck_tr {w : World} {ad : List Nat} {r : TR} {v : Value} (hv : RV ad r v) (em : Bool) : (Instr.checkKey em 10000 77 v).run Tryz.prog w = .ok () w := by
  cases r with
  | int => rw [show v = _ from hv]; kernel_rfl
  | bool => rw [show v = _ from hv]; kernel_rfl
  | nd k i =>
    obtain ⟨b, _, rfl⟩ := hv
    cases k <;> kernel_rfl
end Go.Proofs.YtleenphlgbklmabGreatDoor

namespace Go.Proofs.YtleenphlgbklmabGreatDoor
open Go.RowKit

/-- a type's value, by where the nodes lie. -/
def kvf (ad : List Nat) : TR → Value
  | .int => .iface 271 (.agg #[.string { data := #[105, 110, 116] }])
  | .bool => .iface 271 (.agg #[.string { data := #[98, 111, 111, 108] }])
  | .nd k i => .iface k.tp (.pointer (some ⟨ad.getD i 0, 0, none⟩))
theorem RV.kvf {ad : List Nat} {r : TR} {v : Value} (h : RV ad r v) : v = kvf ad r := by
  cases r with
  | int => exact h
  | bool => exact h
  | nd k i =>
    obtain ⟨b, h1, h2⟩ := h
    rw [h2]
    simp [Go.Proofs.YtleenphlgbklmabGreatDoor.kvf, List.getD, h1]
theorem RV.ok {ad : List Nat} {r : TR} {v : Value} (h : RV ad r v) : RV ad r (Go.Proofs.YtleenphlgbklmabGreatDoor.kvf ad r) := h.kvf ▸ h
/-- a map whose keys are types. -/
def tEnts (ad : List Nat) : List (TR × Value) → Nat → List MapEntry
  | [], _ => []
  | e :: l, i => { key := kvf ad e.1, val := e.2, born := i } :: tEnts ad l (i + 1)
theorem tEnts_snoc (ad : List Nat) (l : List (TR × Value)) (e : TR × Value) : ∀ i, tEnts ad (l ++ [e]) i = tEnts ad l i ++ [{ key := kvf ad e.1, val := e.2, born := i + l.length }] := by
  induction l with
  | nil => intro i; simp [tEnts]
  | cons c l ih =>
    intro i
    have e : i + 1 + l.length = i + (l.length + 1) := by omega
    simp [tEnts, ih, e]
def askT (r : TR) : List (TR × Value) → Nat → Option (Nat × Value)
  | [], _ => none
  | e :: l, i => if r.eqb e.1 then some (i, e.2) else askT r l (i + 1)
structure TMp (w : World) (mb : Nat) (ad : List Nat) (l : List (TR × Value)) : Prop where
  mp : w.heap[mb]? = some (.map (tEnts ad l 0).toArray l.length)
  ok : ∀ e, e ∈ l → RV ad e.1 (kvf ad e.1)
theorem ask_tr {w : World} {ad : List Nat} {τ : St} (h : SW w ad τ) {r : TR} {v : Value} (hv : RV ad r v) (l : List (TR × Value)) : ∀ (i : Nat), (∀ e, e ∈ l → RV ad e.1 (kvf ad e.1)) → (Instr.findAsking 77 v (tEnts ad l i) i).run Tryz.prog w = .ok (askT r l i) w := by
  induction l with
  | nil => intro i _; rfl
  | cons c l ih =>
    intro i hl
    have he := eq_tr h hv (hl c (by simp))
    have hi := ih (i + 1) (fun x hx => hl x (by simp [hx]))
    simp only [tEnts, Instr.findAsking, Sem.run_bind, he, Result.andThen, askT]
    cases hbc : r.eqb c.1 with
    | true => simp
    | false => simp only [Bool.false_eq_true, if_false, hi]
theorem key_tr {w : World} {ad : List Nat} {τ : St} (h : SW w ad τ) {r : TR} {v : Value} (hv : RV ad r v) (l : List (TR × Value)) (hl : ∀ e, e ∈ l → RV ad e.1 (kvf ad e.1)) : (Instr.findKey 77 v (tEnts ad l 0)).run Tryz.prog w = .ok (askT r l 0) w := by
  have ha := ask_tr h hv l 0 hl
  obtain ⟨T, u, rfl⟩ := hv.iface
  obtain ⟨d, hd⟩ : ∃ d, Tryz.prog.underlying 77 = some d ∧ ∀ x y, Instr.sameNow d (.iface T u) y = x → x = none := ⟨_, Tryz.underlying77, fun x y e => by rw [← e]; rfl⟩
  cases l with
  | nil => simp [Instr.findKey, run_underlying hd.1, tEnts, Instr.findNow, askT]
  | cons c l =>
    have hf : Instr.findNow d (.iface T u) (tEnts ad (c :: l) 0) 0 = none := by
      simp only [tEnts, Instr.findNow]
      rw [hd.2 _ _ rfl]
    simp only [Instr.findKey, Sem.run_bind, run_underlying hd.1, Result.andThen, hf]
    exact ha
theorem run_tmlook {w : World} {ad : List Nat} {τ : St} (h : SW w ad τ) {r : TR} {v : Value} (hv : RV ad r v) {mb : Nat} {l : List (TR × Value)} (hm : TMp w mb ad l) (MT V : TypeId) (z : Value) (hu : Tryz.prog.underlying MT = some (.map 77 V)) (hz : (zeroValue V).run Tryz.prog w = .ok z w) :
    (Instr.lookup MT (.map (some mb)) v true).run Tryz.prog w = .ok (match askT r l 0 with | some x => .tuple #[x.2, .bool true] | none => .tuple #[z, .bool false]) w := by
  have hf := key_tr h hv l hm.ok
  have hc := fun e => ck_tr (w := w) hv e
  simp only [Instr.lookup, Sem.run_bind, run_underlying hu, MapKept.run_getObj_map hm.mp, Result.andThen, Sem.run_pure, hc, hf]
  cases askT r l 0 with
  | none => simp [hz, Result.andThen]
  | some j => simp
theorem run_tmput {w : World} {ad : List Nat} {τ : St} (h : SW w ad τ) {r : TR} {v : Value} (hv : RV ad r v) {mb : Nat} {l : List (TR × Value)} (hm : TMp w mb ad l) (MT V : TypeId) (x : Value) (hu : Tryz.prog.underlying MT = some (.map 77 V)) (hj : askT r l 0 = none) :
    (Instr.mapUpdate MT (.map (some mb)) v x).run Tryz.prog w = .ok () (mapSet w mb (.map (tEnts ad (l ++ [(r, x)]) 0).toArray (l.length + 1))) := by
  have hf := key_tr h hv l hm.ok
  rw [hj] at hf
  have hc := ck_tr (w := w) hv false
  have e : (tEnts ad l 0).toArray.push { key := v, val := x, born := l.length } = (tEnts ad (l ++ [(r, x)]) 0).toArray := by
    rw [tEnts_snoc]
    simp [hv.kvf]
  rw [← e]
  simp [Instr.mapUpdate, run_underlying hu, MapKept.run_getObj_map hm.mp, hc, hf, MapKept.run_setObj_map _ hm.mp, Result.andThen, mapSet]
theorem TMp.put {w : World} {mb : Nat} {ad : List Nat} {l : List (TR × Value)} (h : TMp w mb ad l) {r : TR} {v : Value} (hv : RV ad r v) (x : Value) : TMp (mapSet w mb (.map (tEnts ad (l ++ [(r, x)]) 0).toArray (l.length + 1))) mb ad (l ++ [(r, x)]) := by
  refine ⟨?_, ?_⟩
  · rw [mapSet_same _ _ _ (lt_of_block h.mp)]
    simp
  · intro e he
    simp at he
    rcases he with he | rfl
    · exact h.ok e he
    · exact hv.ok
theorem SW.mapSet {w : World} {ad : List Nat} {τ : St} (h : SW w ad τ) {mb : Nat} {es : Array MapEntry} {n : Nat} (hm : w.heap[mb]? = some (.map es n)) (o : Obj) : SW (Go.Proofs.YtleenphlgbklmabGreatDoor.mapSet w mb o) ad τ := h.keep (fun b q hb hq => by
    obtain ⟨q', h1, cs, e, f, rfl, _⟩ := h.tb hb
    rw [mapSet_other _ _ _ _ (fun z => by rw [z, hm] at h1; cases h1)]
    exact hq)
end Go.Proofs.YtleenphlgbklmabGreatDoor

namespace Go.Proofs.YtleenphlgbklmabGreatDoor
open Go.RowKit

/-- a step of a text: tokens, or a piece that stands there already. -/
inductive Sp where
  | tk (t : ByteArray) | cp (f t : Nat)
def Sp.cells : Sp → List Value
  | .tk t => [.string t, .int .i64 0, .int .i64 0]
  | .cp f t => [.string { data := #[] }, .int .i64 f, .int .i64 t]
def spCells : List Sp → List Value
  | [] => []
  | s :: l => s.cells ++ spCells l
theorem spCells_snoc (l : List Sp) (s : Sp) : spCells (l ++ [s]) = spCells l ++ s.cells := by
  induction l with
  | nil => simp [spCells]
  | cons a l ih => simp [spCells, ih]
def Sp.put (acc : ByteArray) : Sp → ByteArray
  | .tk t => acc ++ t
  | .cp f t => acc ++ acc.extract f t
def decS (l : List Sp) : ByteArray := l.foldl Sp.put { data := #[] }
theorem decS_snoc (l : List Sp) (s : Sp) : decS (l ++ [s]) = s.put (decS l) := by simp [decS]
/-- a step that can be told from the other kind. -/
def Sp.ok (acc : ByteArray) : Sp → Prop
  | .tk t => 0 < t.size
  | .cp f t => f ≤ t ∧ t ≤ acc.size
/-- the text being laid out. -/
structure TL (w : World) (B b pm : Nat) (fv : Value) (sp : List Sp) : Prop where
  hB : B ≤ b
  cs : ∃ sv, w.heap[b]? = some (.cells #[fv, sv, .int .i64 (decS sp).size, .map (some pm)] 196 (0, 0)) ∧ w.ownsRow B 202 3 sv sp.length (spCells sp) ∧ sv.ownBlock ≠ some b ∧ sv.ownBlock ≠ some pm
  lt : (decS sp).size ≤ 2147483647 ∧ sp.length ≤ 1000000000
  good : ∀ (k : Nat) (s : Sp), sp[k]? = some s → s.ok (decS (sp.take k))
theorem TL.c {w : World} {B b pm : Nat} {fv : Value} {sp : List Sp} (h : TL w B b pm fv sp) : w.cell? ⟨b, 0, none⟩ = some fv ∧ w.cell? ⟨b, 2, none⟩ = some (.int .i64 (decS sp).size) ∧ w.cell? ⟨b, 3, none⟩ = some (.map (some pm)) ∧ ∃ sv, w.cell? ⟨b, 1, none⟩ = some sv := by
  obtain ⟨sv, h1, _⟩ := h.cs
  simp [World.cell?, h1]
def ST (B : Nat) (q : Nat) : Prop := B ≤ q
set_option maxRecDepth 20000 in
set_option maxHeartbeats 1000000 in
theorem lengthen_any (w : World) (b n m : Nat) (fv sv pv : Value) (hb : w.heap[b]? = some (.cells #[fv, sv, .int .i64 n, pv] 196 (0, 0))) (hm : n + m ≤ 2147483647) :
    Calls Tryz.prog 156 #[.pointer (some ⟨b, 0, none⟩), .int .i64 m] w fun e w' => e = .returned (.tuple #[]) ∧ w'.heap[b]? = some (.cells #[fv, sv, .int .i64 ((n + m : Nat) : Int), pv] 196 (0, 0)) ∧ Kq (· = b) w w' := by
  have c2 : w.cell? ⟨b, 2, none⟩ = some (.int .i64 n) := by simp [World.cell?, hb]
  have f2 : w.frozen? ⟨b, 2, none⟩ = false := by simp [World.frozen?, hb]
  go_enter Tryz.func156, Tryz.ntmps156
  go_wp2
  go_end0
  refine ⟨rfl, ?_, rfl, rfl, by simp, fun k hk hn => Below.heap_setCell _ _ _ _ hn⟩
  first
    | (simp [World.setCell, hb, Array.getElem?_modify]; done)
    | (simp [World.setCell, hb, Array.getElem?_modify]; omega)
theorem Tryz.infoStep : (Tryz.prog.info? 202).map (fun i => (i.zero, i.size, i.bytes)) = some (some (.agg #[.string { data := #[] }, .int .i64 0, .int .i64 0]), 3, 32) := by kernel_rfl
theorem TL.put {w w' : World} {B b pm : Nat} {fv : Value} {sp : List Sp} (h : TL w B b pm fv sp) (s : Sp) (hs : s.ok (decS sp)) (hB : B ≤ b) (sv : Value) (hb : w'.heap[b]? = some (.cells #[fv, sv, .int .i64 (decS (sp ++ [s])).size, .map (some pm)] 196 (0, 0))) (ho : w'.ownsRow B 202 3 sv (sp.length + 1) (spCells sp ++ s.cells)) (hn : sv.ownBlock ≠ some b ∧ sv.ownBlock ≠ some pm) (hl : (decS (sp ++ [s])).size ≤ 2147483647 ∧ sp.length + 1 ≤ 1000000000) : TL w' B b pm fv (sp ++ [s]) := by
  refine ⟨hB, ⟨sv, hb, ?_, hn.1, hn.2⟩, ⟨hl.1, by simpa using hl.2⟩, ?_⟩
  · rw [spCells_snoc]
    simpa using ho
  · intro k s' hk
    by_cases e : k < sp.length
    · rw [List.getElem?_append_left e] at hk
      rw [List.take_append_of_le_length (by omega)]
      exact h.good k s' hk
    · rw [List.getElem?_append_right (by omega)] at hk
      have e2 : k - sp.length = 0 := by
        have := (List.getElem?_eq_some_iff.1 hk).1
        simp at this
        omega
      rw [e2] at hk
      simp at hk
      subst hk
      have e3 : k = sp.length := by omega
      subst e3
      simpa using hs
set_option maxRecDepth 20000 in
set_option maxHeartbeats 1000000 in
theorem tks_any {w : World} {B b pm : Nat} {fv : Value} {sp : List Sp} (h : TL w B b pm fv sp) (hBw : B ≤ w.heap.size) (hpm : pm < w.heap.size) (hbp : pm ≠ b) (t : ByteArray) (ht : 0 < t.size) (hn : (decS sp).size + t.size ≤ 2147483647) (hl : sp.length + 1 ≤ 1000000000) :
    Calls Tryz.prog 157 #[.pointer (some ⟨b, 0, none⟩), .string t] w fun e w' => e = .returned (.tuple #[]) ∧ TL w' B b pm fv (sp ++ [.tk t]) ∧ Kq (ST B) w w' ∧ w'.heap[pm]? = w.heap[pm]? := by
  obtain ⟨sv, hb, ho, hn1, hn2⟩ := h.cs
  obtain ⟨i0, hi, hij⟩ := Option.map_eq_some_iff.1 Tryz.infoStep
  obtain ⟨hz0, hz1, hz2⟩ : i0.zero = some (.agg #[.string { data := #[] }, .int .i64 0, .int .i64 0]) ∧ i0.size = 3 ∧ i0.bytes = 32 := by
    have := hij
    simp only [Prod.mk.injEq] at this
    exact this
  have c1 : w.cell? ⟨b, 1, none⟩ = some sv := by simp [World.cell?, hb]
  have hbl := lt_of_block hb
  have hg : ∀ k, sv.ownBlock = some k → B ≤ k ∧ k < w.heap.size := fun k hk => ho.lt k hk
  have HL : Hid (∀ (w4 : World) (u : Value), w4.heap[b]? = some (.cells #[fv, u, .int .i64 (decS sp).size, .map (some pm)] 196 (0, 0)) → Calls Tryz.prog 156 #[.pointer (some ⟨b, 0, none⟩), .int .i64 (t.size : Nat)] w4 fun e w' => e = .returned (.tuple #[]) ∧ w'.heap[b]? = some (.cells #[fv, u, .int .i64 (((decS sp).size + t.size : Nat) : Int), .map (some pm)] 196 (0, 0)) ∧ Kq (· = b) w4 w') := fun w4 u h4 => lengthen_any w4 b _ _ fv u _ h4 hn
  have H : Hid (TL w B b pm fv sp) := h
  have HN : Hid (sv.ownBlock ≠ some b ∧ sv.ownBlock ≠ some pm) := ⟨hn1, hn2⟩
  have HG : Hid _ := hg
  have HB : Hid _ := h.hB
  clear h hn1 hn2 hg hij
  go_enter Tryz.func157, Tryz.ntmps157
  go_wp2_with (at_builtin; refine wpList_append_own2 _ rfl (.tmp 8) (.tmp 11) 194 rfl B 202 i0 (.agg #[.string { data := #[] }, .int .i64 0, .int .i64 0]) 3 32 Tryz.underlying194 hi hz0 hz1 hz2 rfl (by decide) _ _ _ rfl (ho.alloc _) ⟨w.heap.size, 0, none⟩ 1 1 [.string t, .int .i64 0, .int .i64 0] rfl rfl ?c1 ?c2 ?c3 ?c4 ?c5 (by decide) ?_)
  case c1 =>
    intro y u hy
    match y, hy with
    | 0, hy => simp at hy; subst hy; simp [Addr.add]
    | 1, hy => simp at hy; subst hy; simp [Addr.add]
    | 2, hy => simp at hy; subst hy; simp [Addr.add]
  case c2 =>
    intro u hu
    simp at hu
    rcases hu with rfl | rfl <;> rfl
  case c3 => unfold maxLen; omega
  case c4 => omega
  case c5 => simp; omega
  intro g cap w3 hown3 hgrow3 hfr3
  have hb3 : w3.heap[b]? = some (.cells #[fv, sv, .int .i64 (decS sp).size, .map (some pm)] 196 (0, 0)) := by
    rw [hgrow3.block b (by simp; omega) (fun e => HN.out.1 e.symm), Below.heap_alloc _ _ _ hbl]
    exact hb
  have hgb : g ≠ b ∧ g ≠ pm ∧ B ≤ g := by
    rcases hfr3 with e | e
    · exact ⟨fun z => HN.out.1 (by rw [← e, z]), fun z => HN.out.2 (by rw [← e, z]), (HG.out g e.symm).1⟩
    · (try simp at e)
      exact ⟨by omega, by omega, by omega⟩
  have x1 : w3.cell? ⟨b, 1, none⟩ = some sv := by simp [World.cell?, hb3]
  have x2 : w3.frozen? ⟨b, 1, none⟩ = false := by simp [World.frozen?, hb3]
  have hb4 : (w3.setCell ⟨b, 1, none⟩ (.slice (some ⟨g, 0, none⟩) (sp.length + 1) cap)).heap[b]? = some (.cells #[fv, .slice (some ⟨g, 0, none⟩) (sp.length + 1) cap, .int .i64 (decS sp).size, .map (some pm)] 196 (0, 0)) := by
    simp [World.setCell, hb3, Array.getElem?_modify]
  have HL4 : Hid _ := HL.out _ _ hb4
  have hsz3 := hgrow3.size
  have hpm4 : (w3.setCell ⟨b, 1, none⟩ (.slice (some ⟨g, 0, none⟩) (sp.length + 1) cap)).heap[pm]? = w.heap[pm]? := by
    rw [Below.heap_setCell _ _ _ _ hbp, hgrow3.block pm (by simp; omega) (fun e => HN.out.2 e.symm), Below.heap_alloc _ _ _ hpm]
  have HPM : Hid (pm < w3.heap.size ∧ (w3.setCell ⟨b, 1, none⟩ (.slice (some ⟨g, 0, none⟩) (sp.length + 1) cap)).heap[pm]? = w.heap[pm]?) := ⟨by simp at hsz3; omega, hpm4⟩
  have hk3 : Kq (ST B) w w3 := ⟨hgrow3.os, hgrow3.output, by simp at hsz3; omega, fun k hk hn => by
    rw [hgrow3.block k (by simp; omega) (fun e => hn (HG.out k e.symm).1), Below.heap_alloc _ _ _ hk]⟩
  have hk4 : Kq (ST B) w3 (w3.setCell ⟨b, 1, none⟩ (.slice (some ⟨g, 0, none⟩) (sp.length + 1) cap)) := ⟨rfl, rfl, by simp, fun k hk hn => Below.heap_setCell _ _ _ _ (fun e => hn (by show B ≤ k; rw [show k = b from e]; exact HB.out))⟩
  have ho4 : (w3.setCell ⟨b, 1, none⟩ (.slice (some ⟨g, 0, none⟩) (sp.length + 1) cap)).ownsRow B 202 3 (.slice (some ⟨g, 0, none⟩) (sp.length + 1) cap) (sp.length + 1) (spCells sp ++ [.string t, .int .i64 0, .int .i64 0]) := ownsRow_same hown3 (fun k hk => by
    have : k = g := by simpa [Value.ownBlock] using hk.symm
    subst this
    exact Below.heap_setCell _ _ _ _ hgb.1)
  have HO4 : Hid _ := ho4
  clear HL hown3 hgrow3 hfr3 hb3 ho4 HG HN hpm4
  go_wp2_with (go_at_call 156; refine Calls.mono HL4.out ?_; rintro e w5 ⟨rfl, hb5, hk5⟩)
  go_end0
  have hbe : (decS (sp ++ [.tk t])).size = (decS sp).size + t.size := by rw [decS_snoc]; simp [Sp.put]
  refine ⟨rfl, H.out.put (.tk t) ht HB.out _ (by rw [hbe]; exact hb5) (ownsRow_same HO4.out (fun k hk => ?_)) ⟨?_, ?_⟩ ⟨by rw [hbe]; exact hn, hl⟩, (hk3.trans hk4).trans ⟨hk5.os, hk5.output, hk5.size, fun k hk hq => hk5.block k hk (fun e => hq (by show B ≤ k; rw [show k = b from e]; exact HB.out))⟩, (hk5.block pm (by simpa using HPM.out.1) hbp).trans HPM.out.2⟩
  · have : k = g := by simpa [Value.ownBlock] using hk.symm
    subst this
    exact hk5.block k (World.ownsRow.lt HO4.out k (by simp [Value.ownBlock])).2 hgb.1
  · simpa [Value.ownBlock] using hgb.1
  · simpa [Value.ownBlock] using hgb.2.1
end Go.Proofs.YtleenphlgbklmabGreatDoor

namespace Go.Proofs.YtleenphlgbklmabGreatDoor
open Go.RowKit
set_option maxRecDepth 20000 in
set_option maxHeartbeats 1000000 in
theorem again_any {w : World} {B b pm : Nat} {fv : Value} {sp : List Sp} (h : TL w B b pm fv sp) (hBw : B ≤ w.heap.size) (hpm : pm < w.heap.size) (hbp : pm ≠ b) (f t : Nat) (hft : f ≤ t) (htl : t ≤ (decS sp).size) (hn : (decS sp).size + (t - f) ≤ 2147483647) (hl : sp.length + 1 ≤ 1000000000) :
    Calls Tryz.prog 125 #[.pointer (some ⟨b, 0, none⟩), .agg #[.int .i64 f, .int .i64 t]] w fun e w' => e = .returned (.tuple #[]) ∧ TL w' B b pm fv (sp ++ [.cp f t]) ∧ Kq (ST B) w w' ∧ w'.heap[pm]? = w.heap[pm]? := by
  obtain ⟨sv, hb, ho, hn1, hn2⟩ := h.cs
  obtain ⟨i0, hi, hij⟩ := Option.map_eq_some_iff.1 Tryz.infoStep
  obtain ⟨hz0, hz1, hz2⟩ : i0.zero = some (.agg #[.string { data := #[] }, .int .i64 0, .int .i64 0]) ∧ i0.size = 3 ∧ i0.bytes = 32 := by
    have := hij
    simp only [Prod.mk.injEq] at this
    exact this
  have c1 : w.cell? ⟨b, 1, none⟩ = some sv := by simp [World.cell?, hb]
  have hbl := lt_of_block hb
  have hg : ∀ k, sv.ownBlock = some k → B ≤ k ∧ k < w.heap.size := fun k hk => ho.lt k hk
  have HL : Hid (∀ (w4 : World) (u : Value), w4.heap[b]? = some (.cells #[fv, u, .int .i64 (decS sp).size, .map (some pm)] 196 (0, 0)) → Calls Tryz.prog 156 #[.pointer (some ⟨b, 0, none⟩), .int .i64 ((t : Int) - (f : Int))] w4 fun e w' => e = .returned (.tuple #[]) ∧ w'.heap[b]? = some (.cells #[fv, u, .int .i64 (((decS sp).size + (t - f) : Nat) : Int), .map (some pm)] 196 (0, 0)) ∧ Kq (· = b) w4 w') := fun w4 u h4 => by
    have e : ((t : Int) - (f : Int)) = ((t - f : Nat) : Int) := by omega
    rw [e]
    exact lengthen_any w4 b _ _ fv u _ h4 hn
  have H : Hid (TL w B b pm fv sp) := h
  have HN : Hid (sv.ownBlock ≠ some b ∧ sv.ownBlock ≠ some pm) := ⟨hn1, hn2⟩
  have HG : Hid _ := hg
  have HB : Hid _ := h.hB
  clear h hn1 hn2 hg hij
  have hpl : (w.alloc (.cells #[.int .i64 f, .int .i64 t] 200)).heap.size = w.heap.size + 1 := by simp
  have hbd : (w.alloc (.cells #[.int .i64 f, .int .i64 t] 200)).heap[b]? = some (.cells #[fv, sv, .int .i64 (decS sp).size, .map (some pm)] 196 (0, 0)) := (Below.heap_alloc _ _ _ hbl).trans hb
  have hod : (w.alloc (.cells #[.int .i64 f, .int .i64 t] 200)).ownsRow B 202 3 sv sp.length (spCells sp) := ho.alloc _
  have hpb : (w.alloc (.cells #[.int .i64 f, .int .i64 t] 200)).heap[w.heap.size]? = some (.cells #[.int .i64 f, .int .i64 t] 200 (0, 0)) := heap_alloc_new _ _
  have HGD : Hid (∀ k, sv.ownBlock = some k → B ≤ k ∧ k < w.heap.size) := HG
  have HKP : Hid ((w.alloc (.cells #[.int .i64 f, .int .i64 t] 200)).heap[pm]? = w.heap[pm]?) := Below.heap_alloc _ _ _ hpm
  have HKD : Hid (Kq (ST B) w (w.alloc (.cells #[.int .i64 f, .int .i64 t] 200))) := Kq.of_kept (Kept.alloc _ _)
  clear c1 ho HG hb
  go_enter Tryz.func125, Tryz.ntmps125
  go_wp2_with fail
  generalize hwd : w.alloc (.cells #[.int .i64 f, .int .i64 t] 200) = wd at *
  have c1 : wd.cell? ⟨b, 1, none⟩ = some sv := by simp [World.cell?, hbd]
  have hp0 : wd.cell? ⟨w.heap.size, 0, none⟩ = some (.int .i64 f) := by simp [World.cell?, hpb]
  have hp1 : wd.cell? ⟨w.heap.size, 1, none⟩ = some (.int .i64 t) := by simp [World.cell?, hpb]
  have HNW : Hid ((wd.drew.alloc (.cells #[.string { data := #[] }, .int .i64 f, .int .i64 t] 202)).heap[w.heap.size + 1]? = some (.cells #[.string { data := #[] }, .int .i64 f, .int .i64 t] 202 (0, 0))) := by
    show _ = _
    rw [← hpl]
    exact heap_alloc_new _ _
  have hown : wd.drew.ownsRow B 202 3 sv sp.length (spCells sp) := hod
  have HNC : Hid (∀ (q : Nat) (u : Value), [Value.string { data := #[] }, .int .i64 f, .int .i64 t][q]? = some u → (wd.drew.alloc (.cells #[.string { data := #[] }, .int .i64 f, .int .i64 t] 202)).cell? ((⟨w.heap.size + 1, 0, none⟩ : Addr).add q) = some u) := fun q u hq => by
    have hnw := HNW.out
    generalize wd.drew.alloc (.cells #[.string { data := #[] }, .int .i64 f, .int .i64 t] 202) = wx at *
    match q, hq with
    | 0, hq => simp at hq; subst hq; simp [Addr.add, World.cell?, hnw]
    | 1, hq => simp at hq; subst hq; simp [Addr.add, World.cell?, hnw]
    | 2, hq => simp at hq; subst hq; simp [Addr.add, World.cell?, hnw]
  have HX : Hid (∀ w3 : World, (wd.drew.alloc (.cells #[.string { data := #[] }, .int .i64 f, .int .i64 t] 202)).grownBy w3 sv.ownBlock → w3.heap[b]? = some (.cells #[fv, sv, .int .i64 (decS sp).size, .map (some pm)] 196 (0, 0)) ∧ w3.heap[w.heap.size]? = some (.cells #[.int .i64 f, .int .i64 t] 200 (0, 0)) ∧ w3.cell? ⟨b, 1, none⟩ = some sv ∧ w3.frozen? ⟨b, 1, none⟩ = false) := fun w3 hgrow3 => by
    have hb3 : w3.heap[b]? = some (.cells #[fv, sv, .int .i64 (decS sp).size, .map (some pm)] 196 (0, 0)) := by
      rw [hgrow3.block b (by simp; omega) (fun e => HN.out.1 e.symm), Below.heap_alloc _ _ _ (by show b < wd.heap.size; omega)]
      exact hbd
    refine ⟨hb3, ?_, by simp [World.cell?, hb3], by simp [World.frozen?, hb3]⟩
    rw [hgrow3.block w.heap.size (by simp; omega) (fun e => by have := HGD.out _ e.symm; omega), Below.heap_alloc _ _ _ (by show w.heap.size < wd.heap.size; omega)]
    exact hpb
  go_region_law (first
    | (refine step_append_own2 (by rfl) (.tmp 8) (.tmp 11) 194 (by rfl) B 202 i0 (.agg #[.string { data := #[] }, .int .i64 0, .int .i64 0]) 3 32 Tryz.underlying194 hi hz0 hz1 hz2 rfl (by decide) _ _ _ (by rfl) (hown.alloc _) ⟨w.heap.size + 1, 0, none⟩ 1 1 [.string { data := #[] }, .int .i64 f, .int .i64 t] (by rfl) rfl (fun q u hq => HNC.out q u hq) (fun u hu => by simp at hu; rcases hu with rfl | rfl | rfl <;> rfl) (by unfold maxLen; omega) (by omega) (by simp; omega) (by decide) ?_; intro g cap w3 hown3 hgrow3 hfr3; obtain ⟨hb3, hp3, x1, x2⟩ := HX.out w3 hgrow3))
  all_goals
    have hgb : g ≠ b ∧ g ≠ pm ∧ B ≤ g := by
      rcases hfr3 with e | e
      · exact ⟨fun z => HN.out.1 (by rw [← e, z]), fun z => HN.out.2 (by rw [← e, z]), (HGD.out g e.symm).1⟩
      · (try simp at e)
        exact ⟨by omega, by omega, by omega⟩
    have hb4 : (w3.setCell ⟨b, 1, none⟩ (.slice (some ⟨g, 0, none⟩) (sp.length + 1) cap)).heap[b]? = some (.cells #[fv, .slice (some ⟨g, 0, none⟩) (sp.length + 1) cap, .int .i64 (decS sp).size, .map (some pm)] 196 (0, 0)) := by
      simp [World.setCell, hb3, Array.getElem?_modify]
    have HL4 : Hid _ := HL.out _ _ hb4
    have hsz3 := hgrow3.size
    have hpm4 : (w3.setCell ⟨b, 1, none⟩ (.slice (some ⟨g, 0, none⟩) (sp.length + 1) cap)).heap[pm]? = w.heap[pm]? := by
      rw [Below.heap_setCell _ _ _ _ hbp, hgrow3.block pm (by simp; omega) (fun e => HN.out.2 e.symm)]
      exact (Below.heap_alloc wd.drew _ _ (by show pm < wd.heap.size; omega)).trans (HKP.out)
    have HPM : Hid (pm < w3.heap.size ∧ (w3.setCell ⟨b, 1, none⟩ (.slice (some ⟨g, 0, none⟩) (sp.length + 1) cap)).heap[pm]? = w.heap[pm]?) := ⟨by simp at hsz3; omega, hpm4⟩
    have hk3 : Kq (ST B) w w3 := HKD.out.trans ⟨hgrow3.os, hgrow3.output, by simp at hsz3; omega, fun k hk hn => by
      rw [hgrow3.block k (by simp; omega) (fun e => hn (HGD.out k e.symm).1)]
      exact Below.heap_alloc wd.drew _ _ hk⟩
    have hk4 : Kq (ST B) w3 (w3.setCell ⟨b, 1, none⟩ (.slice (some ⟨g, 0, none⟩) (sp.length + 1) cap)) := ⟨rfl, rfl, by simp, fun k hk hn => Below.heap_setCell _ _ _ _ (fun e => hn (by show B ≤ k; rw [show k = b from e]; exact HB.out))⟩
    have ho4 : (w3.setCell ⟨b, 1, none⟩ (.slice (some ⟨g, 0, none⟩) (sp.length + 1) cap)).ownsRow B 202 3 (.slice (some ⟨g, 0, none⟩) (sp.length + 1) cap) (sp.length + 1) (spCells sp ++ [.string { data := #[] }, .int .i64 f, .int .i64 t]) := ownsRow_same hown3 (fun k hk => by
      have : k = g := by simpa [Value.ownBlock] using hk.symm
      subst this
      exact Below.heap_setCell _ _ _ _ hgb.1)
    have HO4 : Hid _ := ho4
    have q0 : (w3.setCell ⟨b, 1, none⟩ (.slice (some ⟨g, 0, none⟩) (sp.length + 1) cap)).cell? ⟨w.heap.size, 0, none⟩ = some (.int .i64 f) := by
      rw [World.cell?_setCell_other _ _ _ _ (fun e => by injection e with e1; omega)]
      simp [World.cell?, hp3]
    have q1 : (w3.setCell ⟨b, 1, none⟩ (.slice (some ⟨g, 0, none⟩) (sp.length + 1) cap)).cell? ⟨w.heap.size, 1, none⟩ = some (.int .i64 t) := by
      rw [World.cell?_setCell_other _ _ _ _ (fun e => by injection e with e1; omega)]
      simp [World.cell?, hp3]
    have hs34 : (w3.setCell ⟨b, 1, none⟩ (.slice (some ⟨g, 0, none⟩) (sp.length + 1) cap)).heap.size = w3.heap.size := by simp
    generalize hw4 : w3.setCell ⟨b, 1, none⟩ (.slice (some ⟨g, 0, none⟩) (sp.length + 1) cap) = w4 at *
    clear HL hown3 hgrow3 hfr3 hb3 hp3 ho4 x1 x2 hpm4
    go_wp2_with (go_at_call 156; refine Calls.mono HL4.out ?_; rintro e w5 ⟨rfl, hb5, hk5⟩)
    go_end0
    have hbe : (decS (sp ++ [.cp f t])).size = (decS sp).size + (t - f) := by rw [decS_snoc]; simp [Sp.put]; omega
    refine ⟨rfl, H.out.put (.cp f t) ⟨hft, htl⟩ HB.out _ (by rw [hbe]; exact hb5) (ownsRow_same HO4.out (fun k hk => ?_)) ⟨?_, ?_⟩ ⟨by rw [hbe]; exact hn, hl⟩, (hk3.trans hk4).trans ⟨hk5.os, hk5.output, hk5.size, fun k hk hq => hk5.block k hk (fun e => hq (by show B ≤ k; rw [show k = b from e]; exact HB.out))⟩, (hk5.block pm (by have := HPM.out.1; omega) hbp).trans HPM.out.2⟩
    · have : k = g := by simpa [Value.ownBlock] using hk.symm
      subst this
      exact hk5.block k (World.ownsRow.lt HO4.out k (by simp [Value.ownBlock])).2 hgb.1
    · simpa [Value.ownBlock] using hgb.1
    · simpa [Value.ownBlock] using hgb.2.1
end Go.Proofs.YtleenphlgbklmabGreatDoor

namespace Go.Proofs.YtleenphlgbklmabGreatDoor
open Go.RowKit

theorem varsM_pre {m : Nat} {t : Ty} (h : WT m t) : ∀ l, l <+: varsM t l := by
  induction h with
  | var n hn => intro l; rw [varsM_leaf]; split; exact List.prefix_refl _; exact List.prefix_append _ _
  | int => intro l; rw [varsM_int]; exact List.prefix_refl _
  | bool => intro l; rw [varsM_bool]; exact List.prefix_refl _
  | list a _ ih => intro l; rw [varsM_list]; exact ih l
  | pair a b _ _ ih ih2 => intro l; rw [varsM_pair]; exact (ih l).trans (ih2 _)
  | fn a b _ _ ih ih2 => intro l; rw [varsM_fn]; exact (ih l).trans (ih2 _)
theorem varsM_nodup {m : Nat} {t : Ty} (h : WT m t) : ∀ l, l.Nodup → (varsM t l).Nodup := by
  induction h with
  | var n hn =>
    intro l hl
    rw [varsM_leaf]
    split
    · exact hl
    · rename_i e
      refine List.nodup_append.2 ⟨hl, by simp, ?_⟩
      intro a ha b hb
      simp at hb
      subst hb
      intro q
      subst q
      exact e (List.contains_iff_mem.2 ha)
  | int => intro l hl; rw [varsM_int]; exact hl
  | bool => intro l hl; rw [varsM_bool]; exact hl
  | list a _ ih => intro l hl; rw [varsM_list]; exact ih l hl
  | pair a b _ _ ih ih2 => intro l hl; rw [varsM_pair]; exact ih2 _ (ih l hl)
  | fn a b _ _ ih ih2 => intro l hl; rw [varsM_fn]; exact ih2 _ (ih l hl)
theorem cnA_get (ns : List Nat) (m : Nat) (hd : ns.Nodup) (hlt : ∀ x, x ∈ ns → x < m) : ∀ q, q ≤ ns.length → ∀ j, j < q → (cnA ns m q).getD (ns.getD j 0) { data := #[] } = letM j := by
  intro q
  induction q with
  | zero => intro _ j hj; omega
  | succ q ih =>
    intro hq j hj
    have gq : ns.getD q 0 = ns[q] := by simp [List.getD, show q < ns.length by omega]
    have gj : ns.getD j 0 = ns[j] := by simp [List.getD, show j < ns.length by omega]
    by_cases e : j = q
    · subst e
      have : ns.getD j 0 < (cnA ns m j).length := by rw [cnA_len, gj]; exact hlt _ (List.getElem_mem _)
      simp [cnA, List.getD, List.getElem?_set] at this ⊢
      simp [this]
    · have hne : ns.getD q 0 ≠ ns.getD j 0 := by
        rw [gq, gj]
        intro z
        exact (List.pairwise_iff_getElem.1 hd) j q (by omega) (by omega) (by omega) z.symm
      have hi := ih (by omega) j (by omega)
      rw [← hi]
      simp only [cnA]
      generalize ns.getD q 0 = x at *
      generalize ns.getD j 0 = y at *
      simp only [List.getD]
      rw [List.getElem?_set_ne hne]
end Go.Proofs.YtleenphlgbklmabGreatDoor

namespace Go.Proofs.YtleenphlgbklmabGreatDoor
open Go.RowKit

/-- the type that a node is, as a tree; variables by their place in the store. -/
inductive Dn (σ : St) : TR → Ty → Prop
  | int (r : TR) : Rp σ r .int → Dn σ r (.mk { data := #[105, 110, 116] } 0 [])
  | bool (r : TR) : Rp σ r .bool → Dn σ r (.mk { data := #[98, 111, 111, 108] } 0 [])
  | var (r : TR) (i : Nat) : Rp σ r (.nd .vr i) → Dn σ r (.mk { data := #[] } i [])
  | list (r : TR) (i : Nat) (x : TR) (a : Ty) : Rp σ r (.nd .ls i) → σ[i]? = some ⟨.ls x, none⟩ → Dn σ x a → Dn σ r (.mk { data := #[108, 105, 115, 116] } 0 [a])
  | pair (r : TR) (i : Nat) (x y : TR) (a c : Ty) : Rp σ r (.nd .pr i) → σ[i]? = some ⟨.pr x y, none⟩ → Dn σ x a → Dn σ y c → Dn σ r (.mk { data := #[112, 97, 105, 114] } 0 [a, c])
  | fn (r : TR) (i : Nat) (x y : TR) (a c : Ty) : Rp σ r (.nd .ar i) → σ[i]? = some ⟨.ar x y, none⟩ → Dn σ x a → Dn σ y c → Dn σ r (.mk { data := #[102, 117, 110] } 0 [a, c])
theorem Dn.det {σ : St} {r : TR} {t : Ty} (h : Dn σ r t) : ∀ {u : Ty}, Dn σ r u → t = u := by
  induction h with
  | int r h => intro u g; cases g with
    | int _ g => rfl
    | bool _ g => cases h.det g
    | var _ i g => cases h.det g
    | list _ i x a g _ _ => cases h.det g
    | pair _ i x y a c g _ _ _ => cases h.det g
    | fn _ i x y a c g _ _ _ => cases h.det g
  | bool r h => intro u g; cases g with
    | int _ g => cases h.det g
    | bool _ g => rfl
    | var _ i g => cases h.det g
    | list _ i x a g _ _ => cases h.det g
    | pair _ i x y a c g _ _ _ => cases h.det g
    | fn _ i x y a c g _ _ _ => cases h.det g
  | var r j h => intro u g; cases g with
    | int _ g => cases h.det g
    | bool _ g => cases h.det g
    | var _ i g =>
      have := h.det g
      simp only [TR.nd.injEq, true_and] at this
      rw [this]
    | list _ i x a g _ _ => cases h.det g
    | pair _ i x y a c g _ _ _ => cases h.det g
    | fn _ i x y a c g _ _ _ => cases h.det g
  | list r j x a h h1 h2 ih => intro u g; cases g with
    | int _ g => cases h.det g
    | bool _ g => cases h.det g
    | var _ i g => cases h.det g
    | list _ i x' a' g g1 g2 =>
      have := h.det g
      simp only [TR.nd.injEq, true_and] at this
      rw [← this, h1] at g1
      simp at g1
      rw [← g1] at g2
      rw [ih g2]
    | pair _ i x y a c g _ _ _ => cases h.det g
    | fn _ i x y a c g _ _ _ => cases h.det g
  | pair r j x y a c h h1 h2 h3 ih ih2 => intro u g; cases g with
    | int _ g => cases h.det g
    | bool _ g => cases h.det g
    | var _ i g => cases h.det g
    | list _ i x a g _ _ => cases h.det g
    | pair _ i x' y' a' c' g g1 g2 g3 =>
      have := h.det g
      simp only [TR.nd.injEq, true_and] at this
      rw [← this, h1] at g1
      simp at g1
      rw [← g1.1] at g2
      rw [← g1.2] at g3
      rw [ih g2, ih2 g3]
    | fn _ i x y a c g _ _ _ => cases h.det g
  | fn r j x y a c h h1 h2 h3 ih ih2 => intro u g; cases g with
    | int _ g => cases h.det g
    | bool _ g => cases h.det g
    | var _ i g => cases h.det g
    | list _ i x a g _ _ => cases h.det g
    | pair _ i x y a c g _ _ _ => cases h.det g
    | fn _ i x' y' a' c' g g1 g2 g3 =>
      have := h.det g
      simp only [TR.nd.injEq, true_and] at this
      rw [← this, h1] at g1
      simp at g1
      rw [← g1.1] at g2
      rw [← g1.2] at g3
      rw [ih g2, ih2 g3]
theorem Dn.wt {σ : St} {r : TR} {t : Ty} (h : Dn σ r t) : WT σ.length t := by
  induction h with
  | int r h => exact .int
  | bool r h => exact .bool
  | var r i h =>
    obtain ⟨nk, _, h⟩ := h.rt
    exact .var i (List.getElem?_eq_some_iff.1 h).1
  | list r i x a _ _ _ ih => exact .list a ih
  | pair r i x y a c _ _ _ _ ih ih2 => exact .pair a c ih ih2
  | fn r i x y a c _ _ _ _ ih ih2 => exact .fn a c ih ih2
/-- the program's store is that one, but for how long the ways are. -/
def SX (w : World) (ad : List Nat) (σ : St) : Prop := ∃ τ, SW w ad τ ∧ Ev σ τ
theorem SX.keep {w w' : World} {ad : List Nat} {σ : St} (h : SX w ad σ) (hk : ∀ b o, b ∈ ad → w.heap[b]? = some o → w'.heap[b]? = some o) : SX w' ad σ := by
  obtain ⟨τ, h1, h2⟩ := h
  exact ⟨τ, h1.keep hk, h2⟩
theorem known_se {ad : List Nat} {σ : St} {r r0 : TR} (h : Rp σ r r0) (w : World) (v : Value) (hs : SX w ad σ) (hv : RV ad r v) :
    Calls Tryz.prog 124 #[v] w fun e w' => ∃ v0, e = .returned v0 ∧ RV ad r0 v0 ∧ SX w' ad σ ∧ Kt ad (fun _ => False) w w' := by
  obtain ⟨τ, h1, h2⟩ := hs
  refine (known_sw ad (h2.rp _ _ h) w v h1 hv).mono ?_
  rintro e w' ⟨v0, τ', rfl, h3, h4, h5, h6⟩
  exact ⟨v0, rfl, h3, ⟨τ', h4, h2.trans h5⟩, h6⟩
def pvE (es : List (TR × Nat × Nat)) : List (TR × Value) := es.map fun e => (e.1, .agg #[.int .i64 e.2.1, .int .i64 e.2.2])
/-- the writer: the text so far, the pieces of it, the variables come to. -/
structure TX (w : World) (ad : List Nat) (σ : St) (B b pm : Nat) (fv : Value) (F : List ByteArray) (ok : World → List Nat → Prop) (l : List Nat) (sp : List Sp) (es : List (TR × Nat × Nat)) : Prop where
  tl : TL w B b pm fv sp
  mp : TMp w pm ad (pvE es)
  st : SX w ad σ
  ns : ok w l
  bs : B ≤ w.heap.size
  pB : B ≤ pm
  adB : ∀ a, a ∈ ad → a < B
  pcs : ∀ e, e ∈ es → ∃ T, Dn σ e.1 T ∧ e.2.1 ≤ e.2.2 ∧ e.2.2 ≤ (decS sp).size ∧ (decS sp).extract e.2.1 e.2.2 = shT F T ∧ varsM T l = l
/-- where the writer's memory may change. -/
def SN (B : Nat) (nm : Nat → Prop) (q : Nat) : Prop := B ≤ q ∨ nm q
/-- what a way to write variables is good for: what it keeps lies ahead of the writer. -/
def OkK (ad : List Nat) (B : Nat) (ok : World → List Nat → Prop) : Prop := ∀ w w' l, ok w l → Kt ad (ST B) w w' → ok w' l
theorem extract_app (a b : ByteArray) (f t : Nat) (h : t ≤ a.size) : (a ++ b).extract f t = a.extract f t := by
  apply ByteArray.ext
  simp only [ByteArray.data_extract, ByteArray.data_append, Array.extract_append]
  have : a.data.size = a.size := rfl
  rw [show t - a.data.size = 0 by omega]
  simp
theorem TL.kt {w w' : World} {ad : List Nat} {B b pm : Nat} {fv : Value} {sp : List Sp} {S : Nat → Prop} (h : TL w B b pm fv sp) (k : Kt ad S w w') (hS : ∀ q, S q → q < B) : TL w' B b pm fv sp := by
  obtain ⟨hB, ⟨sv, h1, h2, h3, h4⟩, h5, h6⟩ := h
  refine ⟨hB, ⟨sv, k.blk _ _ h1 (fun z => by have := hS _ z; omega) ?_, ?_, h3, h4⟩, h5, h6⟩
  · rintro ⟨cs, e, f, he, ht⟩
    simp only [Obj.cells.injEq] at he
    obtain ⟨_, rfl, _⟩ := he
    rcases ht with e | e | e | e <;> cases e
  · refine ⟨h2.1, ?_⟩
    rcases h2.2 with q | ⟨g, cap, cur, rfl, hgB, hg, hr⟩
    · exact .inl q
    · refine .inr ⟨g, cap, cur, rfl, hgB, k.blk _ _ hg (fun z => by have := hS _ z; omega) ?_, hr⟩
      rintro ⟨cs, e, f, he, ht⟩
      simp only [Obj.cells.injEq] at he
      obtain ⟨_, rfl, _⟩ := he
      rcases ht with e | e | e | e <;> cases e
theorem TMp.kt {w w' : World} {mb : Nat} {ad : List Nat} {l : List (TR × Value)} {S : Nat → Prop} (h : TMp w mb ad l) (k : Kt ad S w w') (hS : ¬ S mb) : TMp w' mb ad l :=
  ⟨k.blk _ _ h.mp hS (by rintro ⟨cs, e, f, he, _⟩; cases he), h.ok⟩
section
variable {w w' : World} {ad : List Nat} {σ : St} {B b pm : Nat} {fv : Value} {F : List ByteArray} {ok : World → List Nat → Prop} {l : List Nat} {sp : List Sp} {es : List (TR × Nat × Nat)}
/-- known was asked. -/
theorem TX.kn (h : TX w ad σ B b pm fv F ok l sp es) (hok : OkK ad B ok) (k : Kt ad (fun _ => False) w w') (hs : SX w' ad σ) : TX w' ad σ B b pm fv F ok l sp es :=
  ⟨h.tl.kt k (fun _ z => z.elim), h.mp.kt k id, hs, hok _ _ _ h.ns (k.mono (fun _ _ z => z.elim)), Nat.le_trans h.bs k.size, h.pB, h.adB, h.pcs⟩
theorem TX.kept (h : TX w ad σ B b pm fv F ok l sp es) (hok : OkK ad B ok) (k : Kept w w') : TX w' ad σ B b pm fv F ok l sp es :=
  h.kn hok (Kt.of_kept k) (h.st.keep (fun _ _ _ hb => k.blk hb))
/-- more of the text stands. -/
theorem TX.more (h : TX w ad σ B b pm fv F ok l sp es) (hok : OkK ad B ok) (k : Kq (ST B) w w') {s : Sp} (ht : TL w' B b pm fv (sp ++ [s])) (hm : w'.heap[pm]? = w.heap[pm]?) : TX w' ad σ B b pm fv F ok l (sp ++ [s]) es := by
  refine ⟨ht, ⟨hm.trans h.mp.mp, h.mp.ok⟩, h.st.keep (fun a o ha hb => (k.block a (lt_of_block hb) (fun z => ?_)).trans hb), hok _ _ _ h.ns (Kt.of_kq k), Nat.le_trans h.bs k.size, h.pB, h.adB, ?_⟩
  · have := h.adB a ha
    have z : B ≤ a := z
    omega
  · intro e he
    obtain ⟨T, h1, h2, h3, h4, h5⟩ := h.pcs e he
    have hp : ∃ x, decS (sp ++ [s]) = decS sp ++ x := by
      rw [decS_snoc]
      cases s with
      | tk t => exact ⟨_, rfl⟩
      | cp f t => exact ⟨_, rfl⟩
    obtain ⟨x, hx⟩ := hp
    refine ⟨T, h1, h2, by rw [hx, ByteArray.size_append]; omega, ?_, h5⟩
    rw [hx, extract_app _ _ _ _ h3]
    exact h4
end
end Go.Proofs.YtleenphlgbklmabGreatDoor
