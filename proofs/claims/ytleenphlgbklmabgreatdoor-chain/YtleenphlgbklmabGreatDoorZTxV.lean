import Derived.Test.YtleenphlgbklmabGreatDoorZPEq
import Derived.Test.YtleenphlgbklmabGreatDoorZTree
import Derived.Lib.Builder
import Derived.Lib.AppendStr
import Derived.Lib.UnsafeStr
import Derived.Shelf.RegionOpenPlain
import Derived.Deep.RegionWith
import Derived.Shelf.Lay
import Derived.Shelf.Strings.BuilderK
import Derived.Shelf.Strings.Builder2
set_option linter.unusedVariables false
set_option linter.unusedSimpArgs false
namespace Go.Proofs.YtleenphlgbklmabGreatDoor
open Go.RowKit

/-- a type's value, by where the nodes lie. -/
def kvf (ad : List Nat) : TR → Value
  | .int => .iface 271 (.agg #[.string { data := #[105, 110, 116] }])
  | .bool => .iface 271 (.agg #[.string { data := #[98, 111, 111, 108] }])
  | .nd k i => .iface k.tp (.pointer (some ⟨ad.getD i 0, 0, none⟩))
theorem RV.kvf {ad : List Nat} {r : TR} {v : Value} (h : RV ad r v) : v = kvf ad r := by
  cases r with
  | int => exact h
  | bool => exact h
  | nd k i =>
    obtain ⟨b, h1, h2⟩ := h
    rw [h2]
    simp [Go.Proofs.YtleenphlgbklmabGreatDoor.kvf, List.getD, h1]
theorem RV.ok {ad : List Nat} {r : TR} {v : Value} (h : RV ad r v) : RV ad r (Go.Proofs.YtleenphlgbklmabGreatDoor.kvf ad r) := h.kvf ▸ h
/-- a map whose keys are types. -/
def tEnts (ad : List Nat) : List (TR × Value) → Nat → List MapEntry
  | [], _ => []
  | e :: l, i => { key := kvf ad e.1, val := e.2, born := i } :: tEnts ad l (i + 1)
theorem tEnts_snoc (ad : List Nat) (l : List (TR × Value)) (e : TR × Value) : ∀ i, tEnts ad (l ++ [e]) i = tEnts ad l i ++ [{ key := kvf ad e.1, val := e.2, born := i + l.length }] := by
  induction l with
  | nil => intro i; simp [tEnts]
  | cons c l ih =>
    intro i
    have e : i + 1 + l.length = i + (l.length + 1) := by omega
    simp [tEnts, ih, e]
def askT (r : TR) : List (TR × Value) → Nat → Option (Nat × Value)
  | [], _ => none
  | e :: l, i => if r.eqb e.1 then some (i, e.2) else askT r l (i + 1)
structure TMp (w : World) (mb : Nat) (ad : List Nat) (l : List (TR × Value)) : Prop where
  mp : w.heap[mb]? = some (.map (tEnts ad l 0).toArray l.length)
  ok : ∀ e, e ∈ l → RV ad e.1 (kvf ad e.1)
theorem ask_tr {w : World} {ad : List Nat} {τ : St} (h : SW w ad τ) {r : TR} {v : Value} (hv : RV ad r v) (l : List (TR × Value)) : ∀ (i : Nat), (∀ e, e ∈ l → RV ad e.1 (kvf ad e.1)) → (Instr.findAsking 77 v (tEnts ad l i) i).run Tryz.prog w = .ok (askT r l i) w := by
  induction l with
  | nil => intro i _; rfl
  | cons c l ih =>
    intro i hl
    have he := eq_tr h hv (hl c (by simp))
    have hi := ih (i + 1) (fun x hx => hl x (by simp [hx]))
    simp only [tEnts, Instr.findAsking, Sem.run_bind, he, Result.andThen, askT]
    cases hbc : r.eqb c.1 with
    | true => simp
    | false => simp only [Bool.false_eq_true, if_false, hi]
theorem key_tr {w : World} {ad : List Nat} {τ : St} (h : SW w ad τ) {r : TR} {v : Value} (hv : RV ad r v) (l : List (TR × Value)) (hl : ∀ e, e ∈ l → RV ad e.1 (kvf ad e.1)) : (Instr.findKey 77 v (tEnts ad l 0)).run Tryz.prog w = .ok (askT r l 0) w := by
  have ha := ask_tr h hv l 0 hl
  obtain ⟨T, u, rfl⟩ := hv.iface
  obtain ⟨d, hd⟩ : ∃ d, Tryz.prog.underlying 77 = some d ∧ ∀ x y, Instr.sameNow d (.iface T u) y = x → x = none := ⟨_, Tryz.underlying77, fun x y e => by rw [← e]; rfl⟩
  cases l with
  | nil => simp [Instr.findKey, run_underlying hd.1, tEnts, Instr.findNow, askT]
  | cons c l =>
    have hf : Instr.findNow d (.iface T u) (tEnts ad (c :: l) 0) 0 = none := by
      simp only [tEnts, Instr.findNow]
      rw [hd.2 _ _ rfl]
    simp only [Instr.findKey, Sem.run_bind, run_underlying hd.1, Result.andThen, hf]
    exact ha
theorem run_tmlook {w : World} {ad : List Nat} {τ : St} (h : SW w ad τ) {r : TR} {v : Value} (hv : RV ad r v) {mb : Nat} {l : List (TR × Value)} (hm : TMp w mb ad l) (MT V : TypeId) (z : Value) (hu : Tryz.prog.underlying MT = some (.map 77 V)) (hz : (zeroValue V).run Tryz.prog w = .ok z w) :
    (Instr.lookup MT (.map (some mb)) v true).run Tryz.prog w = .ok (match askT r l 0 with | some x => .tuple #[x.2, .bool true] | none => .tuple #[z, .bool false]) w := by
  have hf := key_tr h hv l hm.ok
  have hc := fun e => ck_tr (w := w) hv e
  simp only [Instr.lookup, Sem.run_bind, run_underlying hu, MapKept.run_getObj_map hm.mp, Result.andThen, Sem.run_pure, hc, hf]
  cases askT r l 0 with
  | none => simp [hz, Result.andThen]
  | some j => simp
theorem run_tmput {w : World} {ad : List Nat} {τ : St} (h : SW w ad τ) {r : TR} {v : Value} (hv : RV ad r v) {mb : Nat} {l : List (TR × Value)} (hm : TMp w mb ad l) (MT V : TypeId) (x : Value) (hu : Tryz.prog.underlying MT = some (.map 77 V)) (hj : askT r l 0 = none) :
    (Instr.mapUpdate MT (.map (some mb)) v x).run Tryz.prog w = .ok () (mapSet w mb (.map (tEnts ad (l ++ [(r, x)]) 0).toArray (l.length + 1))) := by
  have hf := key_tr h hv l hm.ok
  rw [hj] at hf
  have hc := ck_tr (w := w) hv false
  have e : (tEnts ad l 0).toArray.push { key := v, val := x, born := l.length } = (tEnts ad (l ++ [(r, x)]) 0).toArray := by
    rw [tEnts_snoc]
    simp [hv.kvf]
  rw [← e]
  simp [Instr.mapUpdate, run_underlying hu, MapKept.run_getObj_map hm.mp, hc, hf, MapKept.run_setObj_map _ hm.mp, Result.andThen, mapSet]
theorem TMp.put {w : World} {mb : Nat} {ad : List Nat} {l : List (TR × Value)} (h : TMp w mb ad l) {r : TR} {v : Value} (hv : RV ad r v) (x : Value) : TMp (mapSet w mb (.map (tEnts ad (l ++ [(r, x)]) 0).toArray (l.length + 1))) mb ad (l ++ [(r, x)]) := by
  refine ⟨?_, ?_⟩
  · rw [mapSet_same _ _ _ (lt_of_block h.mp)]
    simp
  · intro e he
    simp at he
    rcases he with he | rfl
    · exact h.ok e he
    · exact hv.ok
theorem SW.mapSet {w : World} {ad : List Nat} {τ : St} (h : SW w ad τ) {mb : Nat} {es : Array MapEntry} {n : Nat} (hm : w.heap[mb]? = some (.map es n)) (o : Obj) : SW (Go.Proofs.YtleenphlgbklmabGreatDoor.mapSet w mb o) ad τ := h.keep (fun b q hb hq => by
    obtain ⟨q', h1, cs, e, f, rfl, _⟩ := h.tb hb
    rw [mapSet_other _ _ _ _ (fun z => by rw [z, hm] at h1; cases h1)]
    exact hq)
end Go.Proofs.YtleenphlgbklmabGreatDoor

namespace Go.Proofs.YtleenphlgbklmabGreatDoor
open Go.RowKit

/-- a step of a text: tokens, or a piece that stands there already. -/
inductive Sp where
  | tk (t : ByteArray) | cp (f t : Nat)
def Sp.cells : Sp → List Value
  | .tk t => [.string t, .int .i64 0, .int .i64 0]
  | .cp f t => [.string { data := #[] }, .int .i64 f, .int .i64 t]
def spCells : List Sp → List Value
  | [] => []
  | s :: l => s.cells ++ spCells l
theorem spCells_snoc (l : List Sp) (s : Sp) : spCells (l ++ [s]) = spCells l ++ s.cells := by
  induction l with
  | nil => simp [spCells]
  | cons a l ih => simp [spCells, ih]
def Sp.put (acc : ByteArray) : Sp → ByteArray
  | .tk t => acc ++ t
  | .cp f t => acc ++ acc.extract f t
def decS (l : List Sp) : ByteArray := l.foldl Sp.put { data := #[] }
theorem decS_snoc (l : List Sp) (s : Sp) : decS (l ++ [s]) = s.put (decS l) := by simp [decS]
/-- a step that can be told from the other kind. -/
def Sp.ok (acc : ByteArray) : Sp → Prop
  | .tk t => 0 < t.size
  | .cp f t => f ≤ t ∧ t ≤ acc.size
/-- the text being laid out. -/
structure TL (w : World) (B b pm : Nat) (fv : Value) (sp : List Sp) : Prop where
  hB : B ≤ b
  cs : ∃ sv, w.heap[b]? = some (.cells #[fv, sv, .int .i64 (decS sp).size, .map (some pm)] 196 (0, 0)) ∧ w.ownsRow B 202 3 sv sp.length (spCells sp) ∧ sv.ownBlock ≠ some b ∧ sv.ownBlock ≠ some pm
  lt : (decS sp).size ≤ 2147483647 ∧ sp.length ≤ 1000000000
  good : ∀ (k : Nat) (s : Sp), sp[k]? = some s → s.ok (decS (sp.take k))
theorem TL.c {w : World} {B b pm : Nat} {fv : Value} {sp : List Sp} (h : TL w B b pm fv sp) : w.cell? ⟨b, 0, none⟩ = some fv ∧ w.cell? ⟨b, 2, none⟩ = some (.int .i64 (decS sp).size) ∧ w.cell? ⟨b, 3, none⟩ = some (.map (some pm)) ∧ ∃ sv, w.cell? ⟨b, 1, none⟩ = some sv := by
  obtain ⟨sv, h1, _⟩ := h.cs
  simp [World.cell?, h1]
def ST (B : Nat) (q : Nat) : Prop := B ≤ q
set_option maxRecDepth 20000 in
set_option maxHeartbeats 1000000 in
theorem lengthen_any (w : World) (b n m : Nat) (fv sv pv : Value) (hb : w.heap[b]? = some (.cells #[fv, sv, .int .i64 n, pv] 196 (0, 0))) (hm : n + m ≤ 2147483647) :
    Calls Tryz.prog 156 #[.pointer (some ⟨b, 0, none⟩), .int .i64 m] w fun e w' => e = .returned (.tuple #[]) ∧ w'.heap[b]? = some (.cells #[fv, sv, .int .i64 ((n + m : Nat) : Int), pv] 196 (0, 0)) ∧ Kq (· = b) w w' := by
  have c2 : w.cell? ⟨b, 2, none⟩ = some (.int .i64 n) := by simp [World.cell?, hb]
  have f2 : w.frozen? ⟨b, 2, none⟩ = false := by simp [World.frozen?, hb]
  go_enter Tryz.func156, Tryz.ntmps156
  go_wp2
  go_end0
  refine ⟨rfl, ?_, rfl, rfl, by simp, fun k hk hn => Below.heap_setCell _ _ _ _ hn⟩
  first
    | (simp [World.setCell, hb, Array.getElem?_modify]; done)
    | (simp [World.setCell, hb, Array.getElem?_modify]; omega)
theorem Tryz.infoStep : (Tryz.prog.info? 202).map (fun i => (i.zero, i.size, i.bytes)) = some (some (.agg #[.string { data := #[] }, .int .i64 0, .int .i64 0]), 3, 32) := by kernel_rfl
theorem TL.put {w w' : World} {B b pm : Nat} {fv : Value} {sp : List Sp} (h : TL w B b pm fv sp) (s : Sp) (hs : s.ok (decS sp)) (hB : B ≤ b) (sv : Value) (hb : w'.heap[b]? = some (.cells #[fv, sv, .int .i64 (decS (sp ++ [s])).size, .map (some pm)] 196 (0, 0))) (ho : w'.ownsRow B 202 3 sv (sp.length + 1) (spCells sp ++ s.cells)) (hn : sv.ownBlock ≠ some b ∧ sv.ownBlock ≠ some pm) (hl : (decS (sp ++ [s])).size ≤ 2147483647 ∧ sp.length + 1 ≤ 1000000000) : TL w' B b pm fv (sp ++ [s]) := by
  refine ⟨hB, ⟨sv, hb, ?_, hn.1, hn.2⟩, ⟨hl.1, by simpa using hl.2⟩, ?_⟩
  · rw [spCells_snoc]
    simpa using ho
  · intro k s' hk
    by_cases e : k < sp.length
    · rw [List.getElem?_append_left e] at hk
      rw [List.take_append_of_le_length (by omega)]
      exact h.good k s' hk
    · rw [List.getElem?_append_right (by omega)] at hk
      have e2 : k - sp.length = 0 := by
        have := (List.getElem?_eq_some_iff.1 hk).1
        simp at this
        omega
      rw [e2] at hk
      simp at hk
      subst hk
      have e3 : k = sp.length := by omega
      subst e3
      simpa using hs
set_option maxRecDepth 20000 in
set_option maxHeartbeats 1000000 in
theorem tks_any {w : World} {B b pm : Nat} {fv : Value} {sp : List Sp} (h : TL w B b pm fv sp) (hBw : B ≤ w.heap.size) (hpm : pm < w.heap.size) (hbp : pm ≠ b) (t : ByteArray) (ht : 0 < t.size) (hn : (decS sp).size + t.size ≤ 2147483647) (hl : sp.length + 1 ≤ 1000000000) :
    Calls Tryz.prog 157 #[.pointer (some ⟨b, 0, none⟩), .string t] w fun e w' => e = .returned (.tuple #[]) ∧ TL w' B b pm fv (sp ++ [.tk t]) ∧ Kq (ST B) w w' ∧ w'.heap[pm]? = w.heap[pm]? := by
  obtain ⟨sv, hb, ho, hn1, hn2⟩ := h.cs
  obtain ⟨i0, hi, hij⟩ := Option.map_eq_some_iff.1 Tryz.infoStep
  obtain ⟨hz0, hz1, hz2⟩ : i0.zero = some (.agg #[.string { data := #[] }, .int .i64 0, .int .i64 0]) ∧ i0.size = 3 ∧ i0.bytes = 32 := by
    have := hij
    simp only [Prod.mk.injEq] at this
    exact this
  have c1 : w.cell? ⟨b, 1, none⟩ = some sv := by simp [World.cell?, hb]
  have hbl := lt_of_block hb
  have hg : ∀ k, sv.ownBlock = some k → B ≤ k ∧ k < w.heap.size := fun k hk => ho.lt k hk
  have HL : Hid (∀ (w4 : World) (u : Value), w4.heap[b]? = some (.cells #[fv, u, .int .i64 (decS sp).size, .map (some pm)] 196 (0, 0)) → Calls Tryz.prog 156 #[.pointer (some ⟨b, 0, none⟩), .int .i64 (t.size : Nat)] w4 fun e w' => e = .returned (.tuple #[]) ∧ w'.heap[b]? = some (.cells #[fv, u, .int .i64 (((decS sp).size + t.size : Nat) : Int), .map (some pm)] 196 (0, 0)) ∧ Kq (· = b) w4 w') := fun w4 u h4 => lengthen_any w4 b _ _ fv u _ h4 hn
  have H : Hid (TL w B b pm fv sp) := h
  have HN : Hid (sv.ownBlock ≠ some b ∧ sv.ownBlock ≠ some pm) := ⟨hn1, hn2⟩
  have HG : Hid _ := hg
  have HB : Hid _ := h.hB
  clear h hn1 hn2 hg hij
  go_enter Tryz.func157, Tryz.ntmps157
  go_wp2_with (at_builtin; refine wpList_append_own2 _ rfl (.tmp 8) (.tmp 11) 194 rfl B 202 i0 (.agg #[.string { data := #[] }, .int .i64 0, .int .i64 0]) 3 32 Tryz.underlying194 hi hz0 hz1 hz2 rfl (by decide) _ _ _ rfl (ho.alloc _) ⟨w.heap.size, 0, none⟩ 1 1 [.string t, .int .i64 0, .int .i64 0] rfl rfl ?c1 ?c2 ?c3 ?c4 ?c5 (by decide) ?_)
  case c1 =>
    intro y u hy
    match y, hy with
    | 0, hy => simp at hy; subst hy; simp [Addr.add]
    | 1, hy => simp at hy; subst hy; simp [Addr.add]
    | 2, hy => simp at hy; subst hy; simp [Addr.add]
  case c2 =>
    intro u hu
    simp at hu
    rcases hu with rfl | rfl <;> rfl
  case c3 => unfold maxLen; omega
  case c4 => omega
  case c5 => simp; omega
  intro g cap w3 hown3 hgrow3 hfr3
  have hb3 : w3.heap[b]? = some (.cells #[fv, sv, .int .i64 (decS sp).size, .map (some pm)] 196 (0, 0)) := by
    rw [hgrow3.block b (by simp; omega) (fun e => HN.out.1 e.symm), Below.heap_alloc _ _ _ hbl]
    exact hb
  have hgb : g ≠ b ∧ g ≠ pm ∧ B ≤ g := by
    rcases hfr3 with e | e
    · exact ⟨fun z => HN.out.1 (by rw [← e, z]), fun z => HN.out.2 (by rw [← e, z]), (HG.out g e.symm).1⟩
    · (try simp at e)
      exact ⟨by omega, by omega, by omega⟩
  have x1 : w3.cell? ⟨b, 1, none⟩ = some sv := by simp [World.cell?, hb3]
  have x2 : w3.frozen? ⟨b, 1, none⟩ = false := by simp [World.frozen?, hb3]
  have hb4 : (w3.setCell ⟨b, 1, none⟩ (.slice (some ⟨g, 0, none⟩) (sp.length + 1) cap)).heap[b]? = some (.cells #[fv, .slice (some ⟨g, 0, none⟩) (sp.length + 1) cap, .int .i64 (decS sp).size, .map (some pm)] 196 (0, 0)) := by
    simp [World.setCell, hb3, Array.getElem?_modify]
  have HL4 : Hid _ := HL.out _ _ hb4
  have hsz3 := hgrow3.size
  have hpm4 : (w3.setCell ⟨b, 1, none⟩ (.slice (some ⟨g, 0, none⟩) (sp.length + 1) cap)).heap[pm]? = w.heap[pm]? := by
    rw [Below.heap_setCell _ _ _ _ hbp, hgrow3.block pm (by simp; omega) (fun e => HN.out.2 e.symm), Below.heap_alloc _ _ _ hpm]
  have HPM : Hid (pm < w3.heap.size ∧ (w3.setCell ⟨b, 1, none⟩ (.slice (some ⟨g, 0, none⟩) (sp.length + 1) cap)).heap[pm]? = w.heap[pm]?) := ⟨by simp at hsz3; omega, hpm4⟩
  have hk3 : Kq (ST B) w w3 := ⟨hgrow3.os, hgrow3.output, by simp at hsz3; omega, fun k hk hn => by
    rw [hgrow3.block k (by simp; omega) (fun e => hn (HG.out k e.symm).1), Below.heap_alloc _ _ _ hk]⟩
  have hk4 : Kq (ST B) w3 (w3.setCell ⟨b, 1, none⟩ (.slice (some ⟨g, 0, none⟩) (sp.length + 1) cap)) := ⟨rfl, rfl, by simp, fun k hk hn => Below.heap_setCell _ _ _ _ (fun e => hn (by show B ≤ k; rw [show k = b from e]; exact HB.out))⟩
  have ho4 : (w3.setCell ⟨b, 1, none⟩ (.slice (some ⟨g, 0, none⟩) (sp.length + 1) cap)).ownsRow B 202 3 (.slice (some ⟨g, 0, none⟩) (sp.length + 1) cap) (sp.length + 1) (spCells sp ++ [.string t, .int .i64 0, .int .i64 0]) := ownsRow_same hown3 (fun k hk => by
    have : k = g := by simpa [Value.ownBlock] using hk.symm
    subst this
    exact Below.heap_setCell _ _ _ _ hgb.1)
  have HO4 : Hid _ := ho4
  clear HL hown3 hgrow3 hfr3 hb3 ho4 HG HN hpm4
  go_wp2_with (go_at_call 156; refine Calls.mono HL4.out ?_; rintro e w5 ⟨rfl, hb5, hk5⟩)
  go_end0
  have hbe : (decS (sp ++ [.tk t])).size = (decS sp).size + t.size := by rw [decS_snoc]; simp [Sp.put]
  refine ⟨rfl, H.out.put (.tk t) ht HB.out _ (by rw [hbe]; exact hb5) (ownsRow_same HO4.out (fun k hk => ?_)) ⟨?_, ?_⟩ ⟨by rw [hbe]; exact hn, hl⟩, (hk3.trans hk4).trans ⟨hk5.os, hk5.output, hk5.size, fun k hk hq => hk5.block k hk (fun e => hq (by show B ≤ k; rw [show k = b from e]; exact HB.out))⟩, (hk5.block pm (by simpa using HPM.out.1) hbp).trans HPM.out.2⟩
  · have : k = g := by simpa [Value.ownBlock] using hk.symm
    subst this
    exact hk5.block k (World.ownsRow.lt HO4.out k (by simp [Value.ownBlock])).2 hgb.1
  · simpa [Value.ownBlock] using hgb.1
  · simpa [Value.ownBlock] using hgb.2.1
end Go.Proofs.YtleenphlgbklmabGreatDoor

namespace Go.Proofs.YtleenphlgbklmabGreatDoor
open Go.RowKit

theorem Tryz.sizeBld : (Tryz.prog.info? 180).map (·.size) = some 2 := by kernel_rfl
set_option maxRecDepth 100000 in
theorem bcc_used (b : Nat) (w : World) (h0 : w.cell? ⟨b, 0, none⟩ = some (.pointer (some ⟨b, 0, none⟩))) :
    Calls Tryz.prog 127 #[.pointer (some ⟨b, 0, none⟩)] w fun e w' => e = .returned (.tuple #[]) ∧ w' = w := by
  obtain ⟨j, hj, _⟩ := Option.map_eq_some_iff.1 Tryz.sizeBld
  go_enter Tryz.func127, Tryz.ntmps127
  go_wp2
  rw [Lib.run_neq_ptr_same w _ Tryz.underlying178 hj]
  go_wp2
  go_end0
  exact ⟨rfl, rfl⟩
theorem Tryz.info5 : (Tryz.prog.info? 5).map (fun i => (i.zero, i.size, i.bytes)) = some (some (.int .u8 0), 1, 1) := by kernel_rfl
end Go.Proofs.YtleenphlgbklmabGreatDoor

namespace Go.Proofs.YtleenphlgbklmabGreatDoor
open Go.RowKit Go.Shelf

shelf_lay Lays.n165 Nm 165 at Tryz as Tryz.lays165
shelf_lay Lays.n169 Nm 169 at Tryz as Tryz.lays169
theorem Tryz.bx165 : Builder.Extra Tryz.prog Tryz.lays165_ren where
  sizeBuilder := by kernel_rfl
  liesBuilder := by kernel_rfl
  t5 := Tryz.underlying5
  a5 := Tryz.isAgg5
  z5 := Tryz.sizeOf5
  v5 := Tryz.zeroValue5
  infoByte := by kernel_rfl
  cellsByte := by kernel_rfl
  sizeByte := by kernel_rfl
  neB5 := by decide
theorem Tryz.bx169 : Builder.Extra Tryz.prog Tryz.lays169_ren where
  sizeBuilder := by kernel_rfl
  liesBuilder := by kernel_rfl
  t5 := Tryz.underlying5
  a5 := Tryz.isAgg5
  z5 := Tryz.sizeOf5
  v5 := Tryz.zeroValue5
  infoByte := by kernel_rfl
  cellsByte := by kernel_rfl
  sizeByte := by kernel_rfl
  neB5 := by decide
theorem fgrow (B b n : Nat) (w : World) (hB : B ≤ b) (hbk : w.heap[b]? = some (.cells #[.pointer none, .slice none 0 0] 180 (0, 0))) (hBw : B ≤ w.heap.size) (hn : n ≤ 281474976710656) :
    Calls Tryz.prog 84 #[.pointer (some ⟨b, 0, none⟩), .int .i64 n] w fun e w' => e = .returned (.tuple #[]) ∧ (Lib.BuilderAt 180 5 B b (.pointer (some ⟨b, 0, none⟩)) [] w' ∧ Below B w w') := Any.Builder_Grow_fresh Tryz.lays165 Tryz.bx165 B b n w hB hbk hBw hn
theorem Tryz.liesBld : liesAt Tryz.prog Tryz.prog.depth 180 (2 / Tryz.prog.cellsOf 180) 0 180 1 = true := by kernel_rfl
set_option maxRecDepth 100000 in
set_option maxHeartbeats 1000000 in
theorem bcc_fresh2 (b : Nat) (w : World) (h0 : w.cell? ⟨b, 0, none⟩ = some (.pointer none)) (hsh : w.shape? b = some (180, 2)) (hfz : w.frozen? ⟨b, 0, none⟩ = false) :
    Calls Tryz.prog 127 #[.pointer (some ⟨b, 0, none⟩)] w fun e w' => e = .returned (.tuple #[]) ∧ w' = w.setCell ⟨b, 0, none⟩ (.pointer (some ⟨b, 0, none⟩)) := by
  obtain ⟨j, hj, hjs⟩ := Option.map_eq_some_iff.1 Tryz.sizeBld
  go_enter Tryz.func127, Tryz.ntmps127
  go_wp2
  rw [Lib.run_to_unsafe w ⟨b, 0, none⟩ Tryz.underlying178 Tryz.underlying126 hj (by rw [hjs]; decide) hsh (Nat.zero_lt_succ 1)]
  simp only [Result.andThen]
  rw [Oper.upon_value]
  go_wp2
  rw [run_callFunc_extern Tryz.func159 (by kernel_rfl) (by kernel_rfl) (by kernel_rfl) (e := Extern.AbiNoEscape.same) (by kernel_rfl)]
  rw [Lib.run_noEscape]
  simp only [Result.andThen]
  rw [Oper.upon_value]
  go_wp2
  rw [Lib.run_from_unsafe w ⟨b, 0, none⟩ Tryz.underlying126 Tryz.underlying178 hj hsh Tryz.liesBld]
  simp only [Result.andThen]
  rw [Oper.upon_value]
  go_wp2
  go_end0
  exact ⟨rfl, rfl⟩

set_option maxRecDepth 100000 in
set_option maxHeartbeats 1000000 in
theorem fwrite (B b : Nat) (bs : List Value) (s : ByteArray) (w : World) (h : Lib.IsBuilderF 180 5 B b bs w) (hlen : bs.length + s.size ≤ 100000000000) (hBw : B ≤ w.heap.size) :
    Calls Tryz.prog 85 #[.pointer (some ⟨b, 0, none⟩), .string s] w fun e w' => e = .returned (.tuple #[.int .i64 s.size, .nilIface]) ∧ Lib.BuilderAtF 180 5 B b (.pointer (some ⟨b, 0, none⟩)) (bs ++ Lib.strCells s) w' ∧ Below B w w' := by
  obtain ⟨i0, hi, hz0, hz1, hz2⟩ := info_parts Tryz.info5
  have HC : Hid (Calls Tryz.prog 127 #[.pointer (some ⟨b, 0, none⟩)] w fun e w' => e = .returned (.tuple #[]) ∧ Lib.BuilderAtF 180 5 B b (.pointer (some ⟨b, 0, none⟩)) bs w' ∧ Below B w w') := by
    rcases h with h | h
    · obtain ⟨hB, v, hbk, _⟩ := id h
      refine (bcc_fresh2 b w (by simp [World.cell?, hbk]) (by simp [World.shape?, hbk]) (by simp [World.frozen?, hbk])).mono ?_
      rintro e w' ⟨rfl, rfl⟩
      exact ⟨rfl, h.used _, (Below.refl B w).setCell (p := ⟨b, 0, none⟩) hB _⟩
    · obtain ⟨hB, v, hbk, _⟩ := id h
      refine (bcc_used b w (by simp [World.cell?, hbk])).mono ?_
      rintro e w' ⟨rfl, rfl⟩
      exact ⟨rfl, h, Below.refl B _⟩
  clear h
  go_enter Tryz.func85, Tryz.ntmps85
  go_wp2_with fail
  refine Calls.mono HC.out ?_
  rintro e w1 ⟨rfl, ⟨hB, v, hbk, hown, hne⟩, hb1⟩
  have c1 : w1.cell? ⟨b, 1, none⟩ = some v := by simp [World.cell?, hbk]
  have hlt := lt_of_block hbk
  have hBw := Nat.le_trans hBw hb1.size
  clear HC
  go_wp2_with (at_builtin; refine Lib.wpList_append_own_stringF _ rfl _ _ 41 9 rfl B 5 i0 Tryz.underlying41 Tryz.underlying9 hi hz0 hz1 hz2 _ _ _ rfl hown s rfl (by unfold maxLen; omega) (by omega) (by omega) ?_)
  intro v' w2 hown' hgrow hx9
  have hb2 : w2.heap[b]? = some (.cells #[.pointer (some ⟨b, 0, none⟩), v] 180 (0, 0)) := by
    rw [hgrow.block b hlt (fun e => hne e.symm)]
    exact hbk
  obtain ⟨ao2, cap2, rfl⟩ : ∃ ao cap, v' = .slice ao (bs.length + s.size) cap := by
    rcases hown'.2 with ⟨e1, e2⟩ | ⟨g, cap, cur, fz, e1, _⟩
    · exact ⟨none, 0, by rw [e1, e2]⟩
    · exact ⟨_, cap, e1⟩
  have d1 : w2.cell? ⟨b, 1, none⟩ = some v := by simp [World.cell?, hb2]
  have f1 : w2.frozen? ⟨b, 1, none⟩ = false := by simp [World.frozen?, hb2]
  have hF : Lib.BuilderAtF 180 5 B b (.pointer (some ⟨b, 0, none⟩)) (bs ++ Lib.strCells s) (w2.setCell ⟨b, 1, none⟩ (.slice ao2 (bs.length + s.size) cap2)) := Lib.BuilderAtF.put hB hb2 (bs' := bs ++ Lib.strCells s) (by simpa [Lib.strCells_length] using hown') (by decide)
  have hKF : Below B w (w2.setCell ⟨b, 1, none⟩ (.slice ao2 (bs.length + s.size) cap2)) := ((hb1.grown hgrow hBw (fun k hk => (hown.lt k hk).1)).setCell (p := ⟨b, 1, none⟩) hB _)
  clear hown' hgrow hx9 hbk hown
  go_wp2
  exact bodyPost_ret (v := .tuple #[.int .i64 s.size, .nilIface]) (by simp [results, Tryz.results85, go_sem]) rfl ⟨rfl, hF, hKF⟩
theorem fstring (B b : Nat) (l : List UInt8) (w : World) (h : Lib.IsBuilderF 180 5 B b (Lib.byteCells l) w) (hBw : B ≤ w.heap.size) :
    Calls Tryz.prog 77 #[.pointer (some ⟨b, 0, none⟩)] w fun e w' => e = .returned (.string ⟨l.toArray⟩) ∧ (Lib.IsBuilderF 180 5 B b (Lib.byteCells l) w' ∧ Below B w w' ∧ Lib.OthersKept 5 (some b) w w') := Any.Builder_String_any_k Tryz.lays169 Tryz.bx169 B b l w h hBw
/-- a builder is a builder still, where another block was made or written. -/
theorem bf_keep {B b c : Nat} {bs : List Value} {w w' : World} (h : Lib.IsBuilderF 180 5 B b bs w) (hc : ∀ k o, w.heap[k]? = some o → k ≠ c → w'.heap[k]? = some o) (hn : ∀ cs e f, w.heap[c]? = some (.cells cs e f) → e ≠ 5 ∧ e ≠ 180) : Lib.IsBuilderF 180 5 B b bs w' := by
  have key : ∀ p, Lib.BuilderAtF 180 5 B b p bs w → Lib.BuilderAtF 180 5 B b p bs w' := by
    rintro p ⟨hB, v, hb, ho, hne⟩
    refine ⟨hB, v, hc b _ hb (fun z => (hn _ _ _ (by rw [← z]; exact hb)).2 rfl), ⟨ho.1, ?_⟩, hne⟩
    rcases ho.2 with q | ⟨g, cap, cur, fz, e1, e2, hg, rest⟩
    · exact .inl q
    · exact .inr ⟨g, cap, cur, fz, e1, e2, hc g _ hg (fun z => (hn _ _ _ (by rw [← z]; exact hg)).1 rfl), rest⟩
  rcases h with h | h
  · exact .inl (key _ h)
  · exact .inr (key _ h)
theorem bf_alloc {B b : Nat} {bs : List Value} {w : World} (h : Lib.IsBuilderF 180 5 B b bs w) (o : Obj) : Lib.IsBuilderF 180 5 B b bs (w.alloc o) := bf_keep (c := w.heap.size) h (fun k o' hk _ => (Below.heap_alloc _ _ _ (lt_of_block hk)).trans hk) (fun cs e f hk => by simp at hk)
end Go.Proofs.YtleenphlgbklmabGreatDoor
