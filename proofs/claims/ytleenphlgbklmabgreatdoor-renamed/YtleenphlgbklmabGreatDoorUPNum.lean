import Derived.Test.YtleenphlgbklmabGreatDoorUPTy
import Derived.Test.YtleenphlgbklmabGreatDoorUPName
import Derived.LaidEql
set_option linter.unusedVariables false
set_option linter.unusedSimpArgs false
namespace Go.Proofs.YtleenphlgbklmabGreatDoor
open Go.RowKit

/-- the numbers of variables, in the order of their first standing. -/
def nFrom : List Nat → Nat → List MapEntry
  | [], _ => []
  | b :: bs, i => { key := .pointer (some ⟨b, 0, none⟩), val := .int .i64 i, born := i } :: nFrom bs (i + 1)
theorem nFrom_snoc (l : List Nat) (b : Nat) : ∀ i, nFrom (l ++ [b]) i = nFrom l i ++ [{ key := .pointer (some ⟨b, 0, none⟩), val := .int .i64 ((i + l.length : Nat) : Int), born := i + l.length }] := by
  induction l with
  | nil => intro i; simp [nFrom]
  | cons c l ih =>
    intro i
    have e : i + 1 + l.length = i + (l.length + 1) := by omega
    simp [nFrom, ih, e]
theorem nFrom_length (l : List Nat) : ∀ i, (nFrom l i).length = l.length := by
  induction l with
  | nil => intro i; rfl
  | cons c l ih => intro i; simp [nFrom, ih]
def VBk (w : World) (b : Nat) : Prop := ∃ cs, w.heap[b]? = some (.cells cs 148 (0, 0))
def VBlk (w : World) (b : Nat) : Prop := ∃ s, w.heap[b]? = some (.cells #[.nilIface, .string s, .bool false] 148 (0, 0))
theorem Tryz.sizeVar : (Tryz.prog.info? 148).map (·.size) = some 3 := by kernel_rfl
theorem VBlk.vbk {w : World} {b : Nat} (h : VBlk w b) : VBk w b := by obtain ⟨s, hs⟩ := h; exact ⟨_, hs⟩
theorem eq_vars (w : World) (b c : Nat) (hb : VBk w b) (hc : VBk w c) : (Op.equal 124 (.pointer (some ⟨b, 0, none⟩)) (.pointer (some ⟨c, 0, none⟩))).run Tryz.prog w = .ok (b == c) w := by
  obtain ⟨j, hj, hjs⟩ := Option.map_eq_some_iff.1 Tryz.sizeVar
  obtain ⟨s, hb⟩ := hb
  obtain ⟨s', hc⟩ := hc
  have h : ∀ d : Nat, (Op.equalIn (d + 1) 124 (.pointer (some ⟨b, 0, none⟩)) (.pointer (some ⟨c, 0, none⟩))).run Tryz.prog w = .ok (b == c) w := fun d => by
    by_cases e : b = c
    · subst e
      simp [Op.equalIn, run_underlying Tryz.underlying124, sizeOf, typeInfo, hj, hjs, run_sameAddr_same]
    · have ho := run_sameAddr_other (P := Tryz.prog) (w := w) (a := ⟨b, 0, none⟩) (b := ⟨c, 0, none⟩) (fun q => e (congrArg Addr.block q)) hb hc
      simp [Op.equalIn, run_underlying Tryz.underlying124, sizeOf, typeInfo, hj, hjs, ho, e]
  simp [Op.equal, Op.maxDepth, h 9999]
theorem ask_vars (w : World) (b : Nat) (hb : VBk w b) (l : List Nat) : ∀ (i : Nat), (∀ c, c ∈ l → VBk w c) → (Instr.findAsking 124 (.pointer (some ⟨b, 0, none⟩)) (nFrom l i) i).run Tryz.prog w = .ok ((l.findIdx? (fun x => b == x)).map fun j => (i + j, .int .i64 ((i + j : Nat) : Int))) w := by
  induction l with
  | nil => intro i _; rfl
  | cons c l ih =>
    intro i h
    have he := eq_vars w b c hb (h c (by simp))
    have hi := ih (i + 1) (fun x hx => h x (by simp [hx]))
    simp only [nFrom, Instr.findAsking, Sem.run_bind, he, Result.andThen, List.findIdx?_cons]
    cases hbc : b == c with
    | true => simp
    | false =>
      simp only [Bool.false_eq_true, if_false, hi]
      cases l.findIdx? (fun x => b == x) with
      | none => rfl
      | some j =>
        have e : i + 1 + j = i + (j + 1) := by omega
        show Result.ok (some (i + 1 + j, Value.int .i64 ((i + 1 + j : Nat) : Int))) w = Result.ok (some (i + (j + 1), Value.int .i64 ((i + (j + 1) : Nat) : Int))) w
        rw [e]
theorem key_vars (w : World) (b : Nat) (hb : VBk w b) (l : List Nat) (h : ∀ c, c ∈ l → VBk w c) : (Instr.findKey 124 (.pointer (some ⟨b, 0, none⟩)) (nFrom l 0)).run Tryz.prog w = .ok ((l.findIdx? (fun x => b == x)).map fun j => (j, .int .i64 (j : Int))) w := by
  have ha := ask_vars w b hb l 0 h
  simp only [Nat.zero_add] at ha
  cases l with
  | nil => simp [Instr.findKey, run_underlying Tryz.underlying124, nFrom, Instr.findNow]
  | cons c l =>
    have hf : Instr.findNow (.pointer 148) (.pointer (some ⟨b, 0, none⟩)) (nFrom (c :: l) 0) 0 = none := by simp [nFrom, Instr.findNow, Instr.sameNow]
    simp only [Instr.findKey, Sem.run_bind, run_underlying Tryz.underlying124, Result.andThen, hf]
    exact ha
theorem ck_var (e : Bool) (n b : Nat) (w : World) : (Instr.checkKey e (n + 1) 124 (.pointer (some ⟨b, 0, none⟩))).run Tryz.prog w = .ok () w := by simp [Instr.checkKey, run_underlying Tryz.underlying124]
structure NM (w : World) (mb : Nat) (l : List Nat) : Prop where
  mp : w.heap[mb]? = some (.map (nFrom l 0).toArray l.length)
  vr : ∀ c, c ∈ l → VBk w c
theorem run_nlook (w : World) (mb b : Nat) (l : List Nat) (h : NM w mb l) (hb : VBk w b) :
    (Instr.lookup 123 (.map (some mb)) (.pointer (some ⟨b, 0, none⟩)) true).run Tryz.prog w = .ok (match l.findIdx? (fun x => b == x) with | some j => .tuple #[.int .i64 j, .bool true] | none => .tuple #[.int .i64 0, .bool false]) w := by
  have hf := key_vars w b hb l h.vr
  have hc : ∀ e, (Instr.checkKey e 10000 124 (.pointer (some ⟨b, 0, none⟩))).run Tryz.prog w = .ok () w := fun e => ck_var e 9999 b w
  have hz : (zeroValue 3).run Tryz.prog w = .ok (.int .i64 0) w := by kernel_rfl
  simp only [Instr.lookup, Sem.run_bind, run_underlying Tryz.underlying123, MapKept.run_getObj_map h.mp, Result.andThen, Sem.run_pure, hc, hf]
  cases l.findIdx? (fun x => b == x) with
  | none => simp [hz, Result.andThen]
  | some j => simp
theorem run_nput (w : World) (mb b : Nat) (l : List Nat) (h : NM w mb l) (hb : VBk w b) (hj : l.findIdx? (fun x => b == x) = none) :
    (Instr.mapUpdate 123 (.map (some mb)) (.pointer (some ⟨b, 0, none⟩)) (.int .i64 (l.length : Int))).run Tryz.prog w = .ok () (mapSet w mb (.map (nFrom (l ++ [b]) 0).toArray (l.length + 1))) := by
  have hf := key_vars w b hb l h.vr
  rw [hj] at hf
  have hc : (Instr.checkKey false 10000 124 (.pointer (some ⟨b, 0, none⟩))).run Tryz.prog w = .ok () w := ck_var false 9999 b w
  have e : (nFrom l 0).toArray.push { key := .pointer (some ⟨b, 0, none⟩), val := .int .i64 (l.length : Int), born := l.length } = (nFrom (l ++ [b]) 0).toArray := by
    rw [nFrom_snoc]
    simp
  rw [← e]
  simp [Instr.mapUpdate, run_underlying Tryz.underlying123, MapKept.run_getObj_map h.mp, hc, hf, MapKept.run_setObj_map _ h.mp, Result.andThen, mapSet]
end Go.Proofs.YtleenphlgbklmabGreatDoor
