import Derived.Test.YtleenphlgbklmabGreatDoorZWDeep
import Derived.Laws.DeepStrings4
import Derived.Test.YtleenphlgbklmabGreatDoorZPVar
import Derived.Test.YtleenphlgbklmabGreatDoorZWCanon
import Derived.LaidEql
import Derived.Test.YtleenphlgbklmabGreatDoorZPTyB
set_option linter.unusedVariables false
set_option linter.unusedSimpArgs false
namespace Go.Proofs.YtleenphlgbklmabGreatDoor
open Go.RowKit

/-- what a type is made of: a variable, a list, a pair, a function. -/
inductive Kd where
  | vr | ls | pr | ar
/-- a type, as it stands in another: int, bool, or a node of the store. -/
inductive TR where
  | int | bool | nd (k : Kd) (i : Nat)
inductive NK where
  | vr (nm : ByteArray) (g : Bool) | ls (x : TR) | pr (x y : TR) | ar (x y : TR)
/-- a node: what it is made of, and what it was found to be. -/
structure Nd where
  k : NK
  s : Option TR
abbrev St := List Nd
def NK.kd : NK → Kd
  | .vr _ _ => .vr
  | .ls _ => .ls
  | .pr _ _ => .pr
  | .ar _ _ => .ar
def Kd.eqb : Kd → Kd → Bool
  | .vr, .vr => true
  | .ls, .ls => true
  | .pr, .pr => true
  | .ar, .ar => true
  | _, _ => false
def TR.eqb : TR → TR → Bool
  | .int, .int => true
  | .bool, .bool => true
  | .nd k i, .nd l j => k.eqb l && i == j
  | _, _ => false
theorem Kd.eqb_iff {a b : Kd} : a.eqb b = true ↔ a = b := by cases a <;> cases b <;> simp [Kd.eqb]
theorem TR.eqb_iff {a b : TR} : a.eqb b = true ↔ a = b := by cases a <;> cases b <;> simp [TR.eqb, Kd.eqb_iff]
theorem TR.eqb_ff {a b : TR} : a.eqb b = false ↔ a ≠ b := by
  rw [← Bool.not_eq_true, TR.eqb_iff]

/-- what a type was found to be. -/
inductive Rp (σ : St) : TR → TR → Prop
  | int : Rp σ .int .int
  | bool : Rp σ .bool .bool
  | root (i : Nat) (nk : NK) : σ[i]? = some ⟨nk, none⟩ → Rp σ (.nd nk.kd i) (.nd nk.kd i)
  | step (i : Nat) (nk : NK) (r r0 : TR) : σ[i]? = some ⟨nk, some r⟩ → Rp σ r r0 → Rp σ (.nd nk.kd i) r0
theorem Rp.det {σ : St} {r a b : TR} (h : Rp σ r a) (g : Rp σ r b) : a = b := by
  induction h with
  | int => cases g; rfl
  | bool => cases g; rfl
  | root i nk h1 =>
    generalize hx : TR.nd nk.kd i = x at g
    cases g with
    | int => cases hx
    | bool => cases hx
    | root j mk h2 => rfl
    | step j mk r r0 h2 _ =>
      simp only [TR.nd.injEq] at hx
      rw [hx.2, h2] at h1
      simp at h1
  | step i nk r r0 h1 _ ih =>
    generalize hx : TR.nd nk.kd i = x at g
    cases g with
    | int => cases hx
    | bool => cases hx
    | root j mk h2 =>
      simp only [TR.nd.injEq] at hx
      rw [hx.2, h2] at h1
      simp at h1
    | step j mk r' r0' h2 h3 =>
      simp only [TR.nd.injEq] at hx
      rw [hx.2, h2] at h1
      simp at h1
      rw [h1.2] at h3
      exact ih h3
theorem Rp.root_of {σ : St} {r r0 : TR} (h : Rp σ r r0) : Rp σ r0 r0 := by
  induction h with
  | int => exact .int
  | bool => exact .bool
  | root i nk h => exact .root i nk h
  | step i nk r r0 _ _ ih => exact ih
theorem Rp.rt {σ : St} {r : TR} {k : Kd} {i : Nat} (h : Rp σ r (.nd k i)) : ∃ nk, nk.kd = k ∧ σ[i]? = some ⟨nk, none⟩ := by
  generalize hx : TR.nd k i = x at h
  induction h with
  | int => cases hx
  | bool => cases hx
  | root j nk h1 =>
    simp only [TR.nd.injEq] at hx
    rw [hx.1, hx.2]
    exact ⟨nk, rfl, h1⟩
  | step _ _ _ _ _ _ ih => exact ih hx

/-- the same store, but for how long the ways are to what was found. -/
structure Ev (σ τ : St) : Prop where
  len : τ.length = σ.length
  kk : ∀ (i : Nat) (nk : NK) (s : Option TR), σ[i]? = some ⟨nk, s⟩ → ∃ s' : Option TR, τ[i]? = some ⟨nk, s'⟩ ∧ s'.isSome = s.isSome
  rp : ∀ r r0, Rp σ r r0 → Rp τ r r0
theorem Ev.refl (σ : St) : Ev σ σ := ⟨rfl, fun _ _ s h => ⟨s, h, rfl⟩, fun _ _ h => h⟩
theorem Ev.trans {a b c : St} (h : Ev a b) (g : Ev b c) : Ev a c := ⟨g.len.trans h.len, fun i nk s q => by
    obtain ⟨s1, q1, e1⟩ := h.kk i nk s q
    obtain ⟨s2, q2, e2⟩ := g.kk i nk s1 q1
    exact ⟨s2, q2, e2.trans e1⟩, fun r r0 q => g.rp _ _ (h.rp _ _ q)⟩
theorem Ev.root {σ τ : St} (h : Ev σ τ) {i : Nat} {nk : NK} (q : σ[i]? = some ⟨nk, none⟩) : τ[i]? = some ⟨nk, none⟩ := by
  obtain ⟨s, h1, h2⟩ := h.kk i nk none q
  cases s with
  | none => exact h1
  | some _ => simp at h2
/-- a way is made short. -/
theorem Rp.short {τ : St} {i : Nat} {nk : NK} {r r0 : TR} (h : τ[i]? = some ⟨nk, some r⟩) (hr : Rp τ r r0) : Ev τ (τ.set i ⟨nk, some r0⟩) := by
  have hi := (List.getElem?_eq_some_iff.1 h).1
  have hroot : ∀ (j : Nat) (mk : NK), τ[j]? = some ⟨mk, none⟩ → (τ.set i ⟨nk, some r0⟩)[j]? = some ⟨mk, none⟩ := fun j mk hj => by
    rw [List.getElem?_set_ne (fun e => by rw [e, hj] at h; simp at h)]
    exact hj
  have hr0 : Rp (τ.set i ⟨nk, some r0⟩) r0 r0 := by
    cases r0 with
    | int => exact .int
    | bool => exact .bool
    | nd k j =>
      obtain ⟨mk, rfl, hj⟩ := hr.rt
      exact .root j mk (hroot j mk hj)
  refine ⟨by simp, ?_, ?_⟩
  · intro j mk s hj
    by_cases e : i = j
    · subst e
      rw [h] at hj
      simp at hj
      obtain ⟨rfl, rfl⟩ := hj
      exact ⟨some r0, by simp [hi], rfl⟩
    · exact ⟨s, by rw [List.getElem?_set_ne e]; exact hj, rfl⟩
  · intro a b hab
    induction hab with
    | int => exact .int
    | bool => exact .bool
    | root j mk hj => exact .root j mk (hroot j mk hj)
    | step j mk a b hj hab ih =>
      by_cases e : i = j
      · subst e
        rw [h] at hj
        simp at hj
        obtain ⟨rfl, rfl⟩ := hj
        rw [hab.det hr]
        exact .step i nk r0 r0 (by simp [hi]) hr0
      · exact .step j mk a b (by rw [List.getElem?_set_ne e]; exact hj) ih
theorem get_snoc {σ : St} {n : Nd} {i : Nat} {x : Nd} (h : σ[i]? = some x) : (σ ++ [n])[i]? = some x := by
  rw [List.getElem?_append_left (List.getElem?_eq_some_iff.1 h).1]
  exact h
theorem Rp.up {σ : St} {r r0 : TR} (h : Rp σ r r0) (u : St) : Rp (σ ++ u) r r0 := by
  have g : ∀ (i : Nat) (x : Nd), σ[i]? = some x → (σ ++ u)[i]? = some x := fun i x h => by
    rw [List.getElem?_append_left (List.getElem?_eq_some_iff.1 h).1]
    exact h
  induction h with
  | int => exact .int
  | bool => exact .bool
  | root i nk h1 => exact .root i nk (g _ _ h1)
  | step i nk r r0 h1 _ ih => exact .step i nk r r0 (g _ _ h1) ih
end Go.Proofs.YtleenphlgbklmabGreatDoor

namespace Go.Proofs.YtleenphlgbklmabGreatDoor
open Go.RowKit

set_option maxRecDepth 20000 in
set_option maxHeartbeats 1000000 in
theorem pitoa_small (n : Nat) (hn : n < 10) (w : World) : Calls Tryz.prog 86 #[.int .i64 n] w fun e w' => e = .returned (.string (bytesN [48 + n])) ∧ w' = w := by
  have h : n = 0 ∨ n = 1 ∨ n = 2 ∨ n = 3 ∨ n = 4 ∨ n = 5 ∨ n = 6 ∨ n = 7 ∨ n = 8 ∨ n = 9 := by omega
  rcases h with rfl | rfl | rfl | rfl | rfl | rfl | rfl | rfl | rfl | rfl
  all_goals
    go_enter Tryz.func86, Tryz.ntmps86
    go_wp2
    go_ret
    exact ⟨congrArg (fun x => Ending.returned (.string x)) (ByteArray.ext (by decide)), rfl⟩

def lettersB : ByteArray := { data := #[97, 98, 99, 100, 101, 102, 103, 104, 105, 106, 107, 108, 109, 110, 111, 112, 113, 114, 115, 116, 117, 118, 119, 120, 121, 122] }
theorem letters_fin : ∀ k : Fin 26, (lettersB.extract k.val (k.val + 1)).data = (bytesN [97 + k.val]).data := by decide
theorem letters_ext (k : Nat) (h : k < 26) : lettersB.extract k (k + 1) = bytesN [97 + k] := ByteArray.ext (letters_fin ⟨k, h⟩)
set_option maxRecDepth 20000 in
set_option maxHeartbeats 1000000 in
theorem pnbn_small (n : Nat) (hn : n < 260) (w : World) : Calls Tryz.prog 58 #[.int .i64 n] w fun e w' => e = .returned (.string (letM n)) ∧ w' = w := by
  have hk := letters_ext (n % 26) (Nat.mod_lt _ (by decide))
  have HE : Hid (letM n = if n < 26 then bytesN [97 + n % 26] else bytesN [97 + n % 26] ++ bytesN [48 + n / 26]) := by
    show _ = _
    unfold letM
    split
    · rename_i h; rw [Nat.mod_eq_of_lt h]
    · rfl
  have HI : Hid (∀ w, Calls Tryz.prog 86 #[.int .i64 ((n / 26 : Nat) : Int)] w fun e w' => e = .returned (.string (bytesN [48 + n / 26])) ∧ w' = w) := fun w => pitoa_small (n / 26) (by omega) w
  have hm : (n : Int) % 26 = ((n % 26 : Nat) : Int) := by omega
  have hmlt : n % 26 < 26 := Nat.mod_lt _ (by decide)
  have hsl : (Instr.slice 9 (.string { data := #[97, 98, 99, 100, 101, 102, 103, 104, 105, 106, 107, 108, 109, 110, 111, 112, 113, 114, 115, 116, 117, 118, 119, 120, 121, 122] }) (some (.int .i64 ((n : Int) % 26))) (some (.int .i64 ((n : Int) % 26 + 1))) none).run Tryz.prog w = .ok (.string (bytesN [97 + n % 26])) w := by
    rw [run_slice_string_if w 9 _ .i64 .i64 _ _ Tryz.underlying9, ← hk]
    rw [hm]
    have hz : (({ data := #[97, 98, 99, 100, 101, 102, 103, 104, 105, 106, 107, 108, 109, 110, 111, 112, 113, 114, 115, 116, 117, 118, 119, 120, 121, 122] } : ByteArray).size : Int) = 26 := rfl
    rw [if_pos (by rw [hz]; omega), if_pos (by omega)]
    have e1 : (((n % 26 : Nat) : Int)).toNat = n % 26 := by omega
    have e2 : (((n % 26 : Nat) : Int) + 1).toNat = n % 26 + 1 := by omega
    rw [e1, e2]
    rfl
  have hdv : (n : Int) / 26 = ((n / 26 : Nat) : Int) := by omega
  have HI2 : Hid (∀ w, Calls Tryz.prog 86 #[.int .i64 ((n : Int) / 26)] w fun e w' => e = .returned (.string (bytesN [48 + n / 26])) ∧ w' = w) := fun w => by rw [hdv]; exact HI.out w
  have hsz : (bytesN [97 + n % 26]).size = 1 := rfl
  have hsz2 : (bytesN [48 + n / 26]).size = 1 := rfl
  clear hm hk HI hdv
  by_cases h26 : n < 26
  · have E : Hid (letM n = bytesN [97 + n % 26]) := by show _ = _; rw [HE.out, if_pos h26]
    have h0 : ¬ (0 : Int) < (n : Int) / 26 := by omega
    have hd0 : decide ((0 : Int) < (n : Int) / 26) = false := by simp; omega
    clear HE
    generalize bytesN [97 + n % 26] = r at *
    go_enter Tryz.func58, Tryz.ntmps58
    go_wp2
    go_ret
    exact ⟨by rw [E.out]; rfl, rfl⟩
  · have E : Hid (letM n = bytesN [97 + n % 26] ++ bytesN [48 + n / 26]) := by show _ = _; rw [HE.out, if_neg h26]
    have h0 : (0 : Int) < (n : Int) / 26 := by omega
    have hd0 : decide ((0 : Int) < (n : Int) / 26) = true := by simp; omega
    clear HE
    generalize bytesN [97 + n % 26] = r at *
    generalize bytesN [48 + n / 26] = r2 at *
    go_enter Tryz.func58, Tryz.ntmps58
    go_wp2_with (go_at_call 86; refine Calls.mono (HI2.out _) ?_; rintro e w' ⟨rfl, hww⟩; rw [hww]; clear hww w')
    go_ret
    exact ⟨by rw [E.out]; rfl, rfl⟩
end Go.Proofs.YtleenphlgbklmabGreatDoor

namespace Go.Proofs.YtleenphlgbklmabGreatDoor
open Go.RowKit

/-- the numbers of variables, in the order of their first standing. -/
def nFrom : List Nat → Nat → List MapEntry
  | [], _ => []
  | b :: bs, i => { key := .pointer (some ⟨b, 0, none⟩), val := .int .i64 i, born := i } :: nFrom bs (i + 1)
theorem nFrom_snoc (l : List Nat) (b : Nat) : ∀ i, nFrom (l ++ [b]) i = nFrom l i ++ [{ key := .pointer (some ⟨b, 0, none⟩), val := .int .i64 ((i + l.length : Nat) : Int), born := i + l.length }] := by
  induction l with
  | nil => intro i; simp [nFrom]
  | cons c l ih =>
    intro i
    have e : i + 1 + l.length = i + (l.length + 1) := by omega
    simp [nFrom, ih, e]
theorem nFrom_length (l : List Nat) : ∀ i, (nFrom l i).length = l.length := by
  induction l with
  | nil => intro i; rfl
  | cons c l ih => intro i; simp [nFrom, ih]
def VBk (w : World) (b : Nat) : Prop := ∃ cs, w.heap[b]? = some (.cells cs 148 (0, 0))
def VBlk (w : World) (b : Nat) : Prop := ∃ s, w.heap[b]? = some (.cells #[.nilIface, .string s, .bool false] 148 (0, 0))
theorem Tryz.sizeVar : (Tryz.prog.info? 148).map (·.size) = some 3 := by kernel_rfl
theorem eq_vars (w : World) (b c : Nat) (hb : VBk w b) (hc : VBk w c) : (Op.equal 124 (.pointer (some ⟨b, 0, none⟩)) (.pointer (some ⟨c, 0, none⟩))).run Tryz.prog w = .ok (b == c) w := by
  obtain ⟨j, hj, hjs⟩ := Option.map_eq_some_iff.1 Tryz.sizeVar
  obtain ⟨s, hb⟩ := hb
  obtain ⟨s', hc⟩ := hc
  have h : ∀ d : Nat, (Op.equalIn (d + 1) 124 (.pointer (some ⟨b, 0, none⟩)) (.pointer (some ⟨c, 0, none⟩))).run Tryz.prog w = .ok (b == c) w := fun d => by
    by_cases e : b = c
    · subst e
      simp [Op.equalIn, run_underlying Tryz.underlying124, sizeOf, typeInfo, hj, hjs, run_sameAddr_same]
    · have ho := run_sameAddr_other (P := Tryz.prog) (w := w) (a := ⟨b, 0, none⟩) (b := ⟨c, 0, none⟩) (fun q => e (congrArg Addr.block q)) hb hc
      simp [Op.equalIn, run_underlying Tryz.underlying124, sizeOf, typeInfo, hj, hjs, ho, e]
  simp [Op.equal, Op.maxDepth, h 9999]
theorem ask_vars (w : World) (b : Nat) (hb : VBk w b) (l : List Nat) : ∀ (i : Nat), (∀ c, c ∈ l → VBk w c) → (Instr.findAsking 124 (.pointer (some ⟨b, 0, none⟩)) (nFrom l i) i).run Tryz.prog w = .ok ((l.findIdx? (fun x => b == x)).map fun j => (i + j, .int .i64 ((i + j : Nat) : Int))) w := by
  induction l with
  | nil => intro i _; rfl
  | cons c l ih =>
    intro i h
    have he := eq_vars w b c hb (h c (by simp))
    have hi := ih (i + 1) (fun x hx => h x (by simp [hx]))
    simp only [nFrom, Instr.findAsking, Sem.run_bind, he, Result.andThen, List.findIdx?_cons]
    cases hbc : b == c with
    | true => simp
    | false =>
      simp only [Bool.false_eq_true, if_false, hi]
      cases l.findIdx? (fun x => b == x) with
      | none => rfl
      | some j =>
        have e : i + 1 + j = i + (j + 1) := by omega
        show Result.ok (some (i + 1 + j, Value.int .i64 ((i + 1 + j : Nat) : Int))) w = Result.ok (some (i + (j + 1), Value.int .i64 ((i + (j + 1) : Nat) : Int))) w
        rw [e]
theorem key_vars (w : World) (b : Nat) (hb : VBk w b) (l : List Nat) (h : ∀ c, c ∈ l → VBk w c) : (Instr.findKey 124 (.pointer (some ⟨b, 0, none⟩)) (nFrom l 0)).run Tryz.prog w = .ok ((l.findIdx? (fun x => b == x)).map fun j => (j, .int .i64 (j : Int))) w := by
  have ha := ask_vars w b hb l 0 h
  simp only [Nat.zero_add] at ha
  cases l with
  | nil => simp [Instr.findKey, run_underlying Tryz.underlying124, nFrom, Instr.findNow]
  | cons c l =>
    have hf : Instr.findNow (.pointer 148) (.pointer (some ⟨b, 0, none⟩)) (nFrom (c :: l) 0) 0 = none := by simp [nFrom, Instr.findNow, Instr.sameNow]
    simp only [Instr.findKey, Sem.run_bind, run_underlying Tryz.underlying124, Result.andThen, hf]
    exact ha
theorem ck_var (e : Bool) (n b : Nat) (w : World) : (Instr.checkKey e (n + 1) 124 (.pointer (some ⟨b, 0, none⟩))).run Tryz.prog w = .ok () w := by simp [Instr.checkKey, run_underlying Tryz.underlying124]
structure NM (w : World) (mb : Nat) (l : List Nat) : Prop where
  mp : w.heap[mb]? = some (.map (nFrom l 0).toArray l.length)
  vr : ∀ c, c ∈ l → VBk w c
theorem run_nlook (w : World) (mb b : Nat) (l : List Nat) (h : NM w mb l) (hb : VBk w b) :
    (Instr.lookup 123 (.map (some mb)) (.pointer (some ⟨b, 0, none⟩)) true).run Tryz.prog w = .ok (match l.findIdx? (fun x => b == x) with | some j => .tuple #[.int .i64 j, .bool true] | none => .tuple #[.int .i64 0, .bool false]) w := by
  have hf := key_vars w b hb l h.vr
  have hc : ∀ e, (Instr.checkKey e 10000 124 (.pointer (some ⟨b, 0, none⟩))).run Tryz.prog w = .ok () w := fun e => ck_var e 9999 b w
  have hz : (zeroValue 3).run Tryz.prog w = .ok (.int .i64 0) w := by kernel_rfl
  simp only [Instr.lookup, Sem.run_bind, run_underlying Tryz.underlying123, MapKept.run_getObj_map h.mp, Result.andThen, Sem.run_pure, hc, hf]
  cases l.findIdx? (fun x => b == x) with
  | none => simp [hz, Result.andThen]
  | some j => simp
theorem run_nput (w : World) (mb b : Nat) (l : List Nat) (h : NM w mb l) (hb : VBk w b) (hj : l.findIdx? (fun x => b == x) = none) :
    (Instr.mapUpdate 123 (.map (some mb)) (.pointer (some ⟨b, 0, none⟩)) (.int .i64 (l.length : Int))).run Tryz.prog w = .ok () (mapSet w mb (.map (nFrom (l ++ [b]) 0).toArray (l.length + 1))) := by
  have hf := key_vars w b hb l h.vr
  rw [hj] at hf
  have hc : (Instr.checkKey false 10000 124 (.pointer (some ⟨b, 0, none⟩))).run Tryz.prog w = .ok () w := ck_var false 9999 b w
  have e : (nFrom l 0).toArray.push { key := .pointer (some ⟨b, 0, none⟩), val := .int .i64 (l.length : Int), born := l.length } = (nFrom (l ++ [b]) 0).toArray := by
    rw [nFrom_snoc]
    simp
  rw [← e]
  simp [Instr.mapUpdate, run_underlying Tryz.underlying123, MapKept.run_getObj_map h.mp, hc, hf, MapKept.run_setObj_map _ h.mp, Result.andThen, mapSet]
end Go.Proofs.YtleenphlgbklmabGreatDoor

namespace Go.Proofs.YtleenphlgbklmabGreatDoor
open Go.RowKit

theorem Tryz.fList (b : Nat) (w : World) : (Go.method 473 149 (.pointer (some ⟨b, 0, none⟩)) "schemes/infer.finding").run Tryz.prog w = .ok (223, .pointer (some ⟨b, 0, none⟩)) w := by kernel_rfl
theorem Tryz.fPair (b : Nat) (w : World) : (Go.method 473 153 (.pointer (some ⟨b, 0, none⟩)) "schemes/infer.finding").run Tryz.prog w = .ok (223, .pointer (some ⟨b, 0, none⟩)) w := by kernel_rfl
theorem Tryz.fArr (b : Nat) (w : World) : (Go.method 473 157 (.pointer (some ⟨b, 0, none⟩)) "schemes/infer.finding").run Tryz.prog w = .ok (223, .pointer (some ⟨b, 0, none⟩)) w := by kernel_rfl
theorem Tryz.fVar (b : Nat) (w : World) : (Go.method 473 124 (.pointer (some ⟨b, 0, none⟩)) "schemes/infer.finding").run Tryz.prog w = .ok (223, .pointer (some ⟨b, 0, none⟩)) w := by kernel_rfl
theorem Tryz.fBase (v : Value) (w : World) : (Go.method 473 271 v "schemes/infer.finding").run Tryz.prog w = .ok (244, v) w := by kernel_rfl
set_option maxRecDepth 20000 in
theorem known_ptr (T : TypeId) (b : Nat) (w : World) (hm : (Go.method 473 T (.pointer (some ⟨b, 0, none⟩)) "schemes/infer.finding").run Tryz.prog w = .ok (223, .pointer (some ⟨b, 0, none⟩)) w) (hc : w.cell? ⟨b, 0, none⟩ = some .nilIface) :
    Calls Tryz.prog 124 #[.iface T (.pointer (some ⟨b, 0, none⟩))] w fun e w' => e = .returned (.iface T (.pointer (some ⟨b, 0, none⟩))) ∧ w' = w := by
  go_enter Tryz.func124, Tryz.ntmps124
  go_wp2
  go_ret
  exact ⟨rfl, rfl⟩
set_option maxRecDepth 20000 in
theorem known_base (v : Value) (w : World) : Calls Tryz.prog 124 #[.iface 271 (.agg #[v])] w fun e w' => e = .returned (.iface 271 (.agg #[v])) ∧ Kp (fun _ => False) w w' := by
  have hm := Tryz.fBase (.agg #[v]) w
  go_enter Tryz.func124, Tryz.ntmps124
  go_wp2
  go_ret
  exact ⟨rfl, (Kp.refl _ _).alloc _⟩
theorem VBlk.c0 {w : World} {b : Nat} (h : VBlk w b) : w.cell? ⟨b, 0, none⟩ = some .nilIface := by
  obtain ⟨s, hs⟩ := h
  simp [World.cell?, hs]
/-- of a type that was read nothing has been found out. -/
theorem known_any {w : World} {vb : List Nat} {t : Ty} {v : Value} (h : PTy w vb t v) (hv : ∀ c, c ∈ vb → VBlk w c) : Calls Tryz.prog 124 #[v] w fun e w' => e = .returned v ∧ Kp (fun _ => False) w w' := by
  cases h with
  | var n b hb => exact (known_ptr _ b w (Tryz.fVar b w) (hv b (List.mem_of_getElem? hb)).c0).mono (fun e w' ⟨h1, h2⟩ => ⟨h1, by rw [h2]; exact Kp.refl _ _⟩)
  | base kd _ => exact known_base _ w
  | list a b p hb _ => exact (known_ptr _ b w (Tryz.fList b w) (by simp [World.cell?, hb])).mono (fun e w' ⟨h1, h2⟩ => ⟨h1, by rw [h2]; exact Kp.refl _ _⟩)
  | pair a c b p q hb _ _ => exact (known_ptr _ b w (Tryz.fPair b w) (by simp [World.cell?, hb])).mono (fun e w' ⟨h1, h2⟩ => ⟨h1, by rw [h2]; exact Kp.refl _ _⟩)
  | fn a c b p q hb _ _ => exact (known_ptr _ b w (Tryz.fArr b w) (by simp [World.cell?, hb])).mono (fun e w' ⟨h1, h2⟩ => ⟨h1, by rw [h2]; exact Kp.refl _ _⟩)
end Go.Proofs.YtleenphlgbklmabGreatDoor

namespace Go.Proofs.YtleenphlgbklmabGreatDoor
open Go.RowKit

def Kd.tp : Kd → TypeId
  | .vr => 124
  | .ls => 149
  | .pr => 153
  | .ar => 157
/-- a type's value, by where the nodes lie. -/
def RV (ad : List Nat) : TR → Value → Prop
  | .int, v => v = .iface 271 (.agg #[.string { data := #[105, 110, 116] }])
  | .bool, v => v = .iface 271 (.agg #[.string { data := #[98, 111, 111, 108] }])
  | .nd k i, v => ∃ b, ad[i]? = some b ∧ v = .iface k.tp (.pointer (some ⟨b, 0, none⟩))
def SV (ad : List Nat) : Option TR → Value → Prop
  | none, v => v = .nilIface
  | some r, v => RV ad r v
/-- a node's block. -/
def NBk (ad : List Nat) : NK → Value → Obj → Prop
  | .vr nm g, s, o => o = .cells #[s, .string nm, .bool g] 148 (0, 0)
  | .ls x, s, o => ∃ p, RV ad x p ∧ o = .cells #[s, p] 152 (0, 0)
  | .pr x y, s, o => ∃ p q, RV ad x p ∧ RV ad y q ∧ o = .cells #[s, p, q] 156 (0, 0)
  | .ar x y, s, o => ∃ p q, RV ad x p ∧ RV ad y q ∧ o = .cells #[s, p, q] 160 (0, 0)
/-- the store lies in memory. -/
structure SW (w : World) (ad : List Nat) (τ : St) : Prop where
  len : ad.length = τ.length
  inj : ad.Nodup
  blk : ∀ (i : Nat) (nk : NK) (s : Option TR) (b : Nat), τ[i]? = some ⟨nk, s⟩ → ad[i]? = some b → ∃ sv o, w.heap[b]? = some o ∧ SV ad s sv ∧ NBk ad nk sv o
def TB (o : Obj) : Prop := ∃ cs e f, o = .cells cs e f ∧ (e = 148 ∨ e = 152 ∨ e = 156 ∨ e = 160)
/-- all that lay there is as it was, but for the blocks of S, and what was found out about the store's types. -/
structure Kt (ad : List Nat) (S : Nat → Prop) (w w' : World) : Prop where
  os : w'.os = w.os
  output : w'.output = w.output
  size : w.heap.size ≤ w'.heap.size
  blk0 : ∀ (k : Nat) (o : Obj), w.heap[k]? = some o → ¬ S k → (TB o → ¬ k ∈ ad) → w'.heap[k]? = some o
theorem Kt.blk {ad : List Nat} {S : Nat → Prop} {w w' : World} (h : Kt ad S w w') (k : Nat) (o : Obj) (hk : w.heap[k]? = some o) (hn : ¬ S k) (ht : ¬ TB o) : w'.heap[k]? = some o := h.blk0 k o hk hn (fun z => absurd z ht)
theorem Kt.refl (ad : List Nat) (S : Nat → Prop) (w : World) : Kt ad S w w := ⟨rfl, rfl, Nat.le_refl _, fun _ _ h _ _ => h⟩
theorem Kt.trans {ad : List Nat} {S : Nat → Prop} {a b c : World} (h : Kt ad S a b) (k : Kt ad S b c) : Kt ad S a c :=
  ⟨k.os.trans h.os, k.output.trans h.output, Nat.le_trans h.size k.size, fun q o hq hs ht => k.blk0 q o (h.blk0 q o hq hs ht) hs ht⟩
theorem Kt.then {ad ad' : List Nat} {S : Nat → Prop} {a b c : World} (h : Kt ad S a b) (k : Kt ad' S b c) (hn : ∀ q, q ∈ ad' → q ∈ ad ∨ a.heap.size ≤ q) : Kt ad S a c :=
  ⟨k.os.trans h.os, k.output.trans h.output, Nat.le_trans h.size k.size, fun q o hq hs ht => k.blk0 q o (h.blk0 q o hq hs ht) hs (fun z y => by
    rcases hn q y with e | e
    · exact ht z e
    · have := lt_of_block hq
      omega)⟩
theorem Kt.mono {ad : List Nat} {S T : Nat → Prop} {a b : World} (h : Kt ad S a b) (hs : ∀ q, q < a.heap.size → S q → T q) : Kt ad T a b :=
  ⟨h.os, h.output, h.size, fun q o hq hn ht => h.blk0 q o hq (fun x => hn (hs q (lt_of_block hq) x)) ht⟩
theorem Kt.of_kq {ad : List Nat} {S : Nat → Prop} {a b : World} (h : Kq S a b) : Kt ad S a b := ⟨h.os, h.output, h.size, fun q _ hq hn _ => (h.block q (lt_of_block hq) hn).trans hq⟩
theorem Kt.of_kp {ad : List Nat} {S : Nat → Prop} {a b : World} (h : Kp S a b) : Kt ad S a b := ⟨h.os, h.output, h.size, fun _ _ hq hn _ => h.blk hq hn⟩
theorem Kt.of_kept {ad : List Nat} {S : Nat → Prop} {a b : World} (h : Kept a b) : Kt ad S a b := ⟨h.os, h.output, h.size, fun _ _ hq _ _ => h.blk hq⟩
theorem RV.up {ad : List Nat} {r : TR} {v : Value} (h : RV ad r v) (u : List Nat) : RV (ad ++ u) r v := by
  cases r with
  | int => exact h
  | bool => exact h
  | nd k i =>
    obtain ⟨b, h1, h2⟩ := h
    exact ⟨b, by rw [List.getElem?_append_left (List.getElem?_eq_some_iff.1 h1).1]; exact h1, h2⟩
theorem RV.det {ad : List Nat} {r : TR} {v v' : Value} (h : RV ad r v) (g : RV ad r v') : v = v' := by
  cases r with
  | int => exact h.trans g.symm
  | bool => exact h.trans g.symm
  | nd k i =>
    obtain ⟨b, h1, h2⟩ := h
    obtain ⟨c, g1, g2⟩ := g
    rw [h1] at g1
    simp at g1
    rw [h2, g2, g1]
theorem RV.iface {ad : List Nat} {r : TR} {v : Value} (h : RV ad r v) : ∃ T u, v = .iface T u := by
  cases r with
  | int => exact ⟨_, _, h⟩
  | bool => exact ⟨_, _, h⟩
  | nd k i =>
    obtain ⟨b, h1, h2⟩ := h
    exact ⟨_, _, h2⟩
theorem SV.up {ad : List Nat} {s : Option TR} {v : Value} (h : SV ad s v) (u : List Nat) : SV (ad ++ u) s v := by
  cases s with
  | none => exact h
  | some r => exact RV.up h u
theorem NBk.up {ad : List Nat} {nk : NK} {s : Value} {o : Obj} (h : NBk ad nk s o) (u : List Nat) : NBk (ad ++ u) nk s o := by
  cases nk with
  | vr nm g => exact h
  | ls x => obtain ⟨p, h1, h2⟩ := h; exact ⟨p, h1.up u, h2⟩
  | pr x y => obtain ⟨p, q, h1, h2, h3⟩ := h; exact ⟨p, q, h1.up u, h2.up u, h3⟩
  | ar x y => obtain ⟨p, q, h1, h2, h3⟩ := h; exact ⟨p, q, h1.up u, h2.up u, h3⟩
theorem NBk.tb {ad : List Nat} {nk : NK} {s : Value} {o : Obj} (h : NBk ad nk s o) : TB o := by
  cases nk with
  | vr nm g => exact ⟨_, _, _, h, .inl rfl⟩
  | ls x => obtain ⟨p, h1, h2⟩ := h; exact ⟨_, _, _, h2, .inr (.inl rfl)⟩
  | pr x y => obtain ⟨p, q, h1, h2, h3⟩ := h; exact ⟨_, _, _, h3, .inr (.inr (.inl rfl))⟩
  | ar x y => obtain ⟨p, q, h1, h2, h3⟩ := h; exact ⟨_, _, _, h3, .inr (.inr (.inr rfl))⟩
/-- the node's first cell: what it was found to be. -/
theorem NBk.first {ad : List Nat} {nk : NK} {s : Value} {o : Obj} (h : NBk ad nk s o) : ∃ cs e, o = .cells cs e (0, 0) ∧ cs[0]? = some s ∧ ∀ s', NBk ad nk s' (.cells (cs.set! 0 s') e (0, 0)) := by
  cases nk with
  | vr nm g => exact ⟨_, _, h, rfl, fun s' => rfl⟩
  | ls x => obtain ⟨p, h1, h2⟩ := h; exact ⟨_, _, h2, rfl, fun s' => ⟨p, h1, rfl⟩⟩
  | pr x y => obtain ⟨p, q, h1, h2, h3⟩ := h; exact ⟨_, _, h3, rfl, fun s' => ⟨p, q, h1, h2, rfl⟩⟩
  | ar x y => obtain ⟨p, q, h1, h2, h3⟩ := h; exact ⟨_, _, h3, rfl, fun s' => ⟨p, q, h1, h2, rfl⟩⟩
theorem NBk.cell {ad : List Nat} {nk : NK} {s : Value} {o : Obj} {w : World} {b : Nat} (h : NBk ad nk s o) (hb : w.heap[b]? = some o) : w.cell? ⟨b, 0, none⟩ = some s := by
  obtain ⟨cs, e, rfl, h1, _⟩ := h.first
  simp [World.cell?, hb, h1]
theorem SW.keep {w w' : World} {ad : List Nat} {τ : St} (h : SW w ad τ) (hk : ∀ b o, b ∈ ad → w.heap[b]? = some o → w'.heap[b]? = some o) : SW w' ad τ :=
  ⟨h.len, h.inj, fun i nk s b h1 h2 => by
    obtain ⟨sv, o, h3, h4, h5⟩ := h.blk i nk s b h1 h2
    exact ⟨sv, o, hk b o (List.mem_of_getElem? h2) h3, h4, h5⟩⟩
theorem SW.mem {w : World} {ad : List Nat} {τ : St} (h : SW w ad τ) {b : Nat} (hb : b ∈ ad) : ∃ (i : Nat) (nk : NK) (s : Option TR) (sv : Value) (o : Obj), τ[i]? = some ⟨nk, s⟩ ∧ ad[i]? = some b ∧ w.heap[b]? = some o ∧ SV ad s sv ∧ NBk ad nk sv o := by
  obtain ⟨i, hi⟩ := List.getElem?_of_mem hb
  have hlt := (List.getElem?_eq_some_iff.1 hi).1
  have : i < τ.length := h.len ▸ hlt
  obtain ⟨sv, o, h3, h4, h5⟩ := h.blk i (τ[i]).k (τ[i]).s b (by simp [this]) hi
  exact ⟨i, (τ[i]).k, (τ[i]).s, sv, o, by simp [this], hi, h3, h4, h5⟩
theorem SW.tb {w : World} {ad : List Nat} {τ : St} (h : SW w ad τ) {b : Nat} (hb : b ∈ ad) : ∃ o, w.heap[b]? = some o ∧ TB o := by
  obtain ⟨i, nk, s, sv, o, _, _, h3, _, h5⟩ := h.mem hb
  exact ⟨o, h3, h5.tb⟩
/-- a node was found to be another type. -/
theorem SW.found {w : World} {ad : List Nat} {τ : St} (h : SW w ad τ) {i b : Nat} {nk : NK} {s : Option TR} {r : TR} {v : Value} (hi : τ[i]? = some ⟨nk, s⟩) (hb : ad[i]? = some b) (hv : RV ad r v) : SW (w.setCell ⟨b, 0, none⟩ v) ad (τ.set i ⟨nk, some r⟩) := by
  refine ⟨by simp [h.len], h.inj, ?_⟩
  intro j mk s' c hj hc
  by_cases e : i = j
  · subst e
    rw [hb] at hc
    simp at hc
    subst hc
    have hlt := (List.getElem?_eq_some_iff.1 hi).1
    simp [hlt] at hj
    obtain ⟨rfl, rfl⟩ := hj
    obtain ⟨sv, o, h3, h4, h5⟩ := h.blk i nk s b hi hb
    obtain ⟨cs, ty, rfl, h6, h7⟩ := h5.first
    refine ⟨v, _, ?_, hv, h7 v⟩
    simp [World.setCell, h3, Array.getElem?_modify]
  · rw [List.getElem?_set_ne e] at hj
    obtain ⟨sv, o, h3, h4, h5⟩ := h.blk j mk s' c hj hc
    refine ⟨sv, o, ?_, h4, h5⟩
    rw [Below.heap_setCell _ _ _ _ (fun z => ?_)]
    · exact h3
    · have z : c = b := z
      have e1 := (List.getElem?_eq_some_iff.1 hb)
      have e2 := (List.getElem?_eq_some_iff.1 hc)
      obtain ⟨l1, e1⟩ := e1
      obtain ⟨l2, e2⟩ := e2
      have hp := List.pairwise_iff_getElem.1 h.inj
      rcases Nat.lt_trichotomy i j with q | q | q
      · exact hp i j l1 l2 q (by rw [e1, e2, z])
      · exact e q
      · exact hp j i l2 l1 q (by rw [e1, e2, z])
theorem Kt.setT {ad : List Nat} {S : Nat → Prop} {w : World} {b : Nat} {o : Obj} (hb : w.heap[b]? = some o) (ht : TB o) (ha : b ∈ ad) (c : Nat) (v : Value) : Kt ad S w (w.setCell ⟨b, c, none⟩ v) := by
  refine ⟨rfl, rfl, by simp, ?_⟩
  intro k o' hk _ hn
  rw [Below.heap_setCell _ _ _ _ (fun z => ?_)]
  · exact hk
  · have z : k = b := z
    rw [z, hb] at hk
    simp at hk
    exact hn (hk ▸ ht) (z ▸ ha)
theorem Tryz.fAny (k : Kd) (b : Nat) (w : World) : (Go.method 473 k.tp (.pointer (some ⟨b, 0, none⟩)) "schemes/infer.finding").run Tryz.prog w = .ok (223, .pointer (some ⟨b, 0, none⟩)) w := by
  cases k
  · exact Tryz.fVar b w
  · exact Tryz.fList b w
  · exact Tryz.fPair b w
  · exact Tryz.fArr b w
set_option maxRecDepth 20000 in
set_option maxHeartbeats 1000000 in
theorem find_ptr (b : Nat) (w : World) : Calls Tryz.prog 223 #[.pointer (some ⟨b, 0, none⟩)] w fun e w' => e = .returned (.pointer (some ⟨b, 0, none⟩)) ∧ w' = w := by
  go_enter Tryz.func223, Tryz.ntmps223
  go_wp2
  go_ret
  exact ⟨rfl, rfl⟩
set_option maxRecDepth 20000 in
set_option maxHeartbeats 1000000 in
theorem known_sw (ad : List Nat) {τ : St} {r r0 : TR} (h : Rp τ r r0) : ∀ (w : World) (v : Value), SW w ad τ → RV ad r v →
    Calls Tryz.prog 124 #[v] w fun e w' => ∃ v0 τ', e = .returned v0 ∧ RV ad r0 v0 ∧ SW w' ad τ' ∧ Ev τ τ' ∧ Kt ad (fun _ => False) w w' := by
  induction h with
  | int =>
    intro w v hs hv
    rw [show v = _ from hv]
    refine (known_base _ w).mono ?_
    rintro e w' ⟨rfl, hk⟩
    exact ⟨_, τ, rfl, rfl, hs.keep (fun b o _ hb => hk.blk hb id), Ev.refl _, Kt.of_kp hk⟩
  | bool =>
    intro w v hs hv
    rw [show v = _ from hv]
    refine (known_base _ w).mono ?_
    rintro e w' ⟨rfl, hk⟩
    exact ⟨_, τ, rfl, rfl, hs.keep (fun b o _ hb => hk.blk hb id), Ev.refl _, Kt.of_kp hk⟩
  | root i nk hi =>
    intro w v hs hv
    obtain ⟨b, hb, rfl⟩ := hv
    obtain ⟨sv, o, h1, h2, h3⟩ := hs.blk i nk none b hi hb
    rw [show sv = _ from h2] at h3
    refine (known_ptr _ b w (Tryz.fAny _ b w) (h3.cell h1)).mono ?_
    rintro e w' ⟨rfl, rfl⟩
    exact ⟨_, τ, rfl, ⟨b, hb, rfl⟩, hs, Ev.refl _, Kt.refl _ _ _⟩
  | step i nk r r0 hi hr ih =>
    intro w v hs hv
    obtain ⟨b, hb, rfl⟩ := hv
    obtain ⟨sv, o, h1, h2, h3⟩ := hs.blk i nk (some r) b hi hb
    have h2 : RV ad r sv := h2
    obtain ⟨T, u, rfl⟩ := h2.iface
    have c0 := h3.cell h1
    have hm := Tryz.fAny nk.kd b w
    have HI : Hid _ := ih w _ hs h2
    have HF : Hid _ := find_ptr b w
    have FIN : Hid (∀ (w1 : World) (τ1 : St) (v0 : Value), SW w1 ad τ1 → Ev τ τ1 → Kt ad (fun _ => False) w w1 → RV ad r0 v0 → (∃ x, w1.frozen? ⟨b, 0, none⟩ = false ∧ w1.cell? ⟨b, 0, none⟩ = some x) ∧ SW (w1.setCell ⟨b, 0, none⟩ v0) ad (τ1.set i ⟨nk, some r0⟩) ∧ Ev τ (τ1.set i ⟨nk, some r0⟩) ∧ Kt ad (fun _ => False) w (w1.setCell ⟨b, 0, none⟩ v0)) := by
      intro w1 τ1 v0 hs1 he1 hk1 hv0
      obtain ⟨s', q1, q2⟩ := he1.kk i nk _ hi
      cases s' with
      | none => simp at q2
      | some r1 =>
        obtain ⟨sv1, o1, g1, g2, g3⟩ := hs1.blk i nk (some r1) b q1 hb
        have hrr := he1.rp _ _ (Rp.step i nk r r0 hi hr)
        have hr1 : Rp τ1 r1 r0 := by
          generalize hx : TR.nd nk.kd i = x at hrr
          cases hrr with
          | int => cases hx
          | bool => cases hx
          | root j mk hj =>
            simp only [TR.nd.injEq] at hx
            rw [← hx.2, q1] at hj
            simp at hj
          | step j mk r2 r3 hj h5 =>
            simp only [TR.nd.injEq] at hx
            rw [← hx.2, q1] at hj
            simp at hj
            rw [hj.2]
            exact h5
        obtain ⟨cs, ty, rfl, _, _⟩ := g3.first
        exact ⟨⟨_, by simp [World.frozen?, g1], g3.cell g1⟩, hs1.found q1 hb hv0, he1.trans (Rp.short q1 hr1), hk1.trans (Kt.setT g1 g3.tb (List.mem_of_getElem? hb) _ _)⟩
    clear ih hs h1 h3
    go_enter Tryz.func124, Tryz.ntmps124
    go_wp2_with fail
    refine Calls.mono HF.out ?_
    rintro e w' ⟨rfl, hww⟩
    rw [hww]
    clear hww w' HF
    go_wp2_with fail
    refine Calls.mono HI.out ?_
    rintro e w1 ⟨v0, τ1, rfl, hv0, hs1, he1, hk1⟩
    obtain ⟨T0, u0, rfl⟩ := hv0.iface
    obtain ⟨⟨x, hxb, hx⟩, f1, f2, f3⟩ := FIN.out w1 τ1 _ hs1 he1 hk1 hv0
    clear FIN HI hs1
    go_wp2
    go_ret
    exact ⟨_, _, rfl, hv0, f1, f2, f3⟩
end Go.Proofs.YtleenphlgbklmabGreatDoor

namespace Go.Proofs.YtleenphlgbklmabGreatDoor
open Go.RowKit

theorem eq_ptr (T E : TypeId) (n : Nat) (hu : Tryz.prog.underlying T = some (.pointer E)) (hs : (Tryz.prog.info? E).map (·.size) = some (n + 1)) (hc : (Tryz.prog.info? T).map (·.comparable) = some true) (w : World) (b c : Nat) (hb : ∃ cs e, w.heap[b]? = some (.cells cs e (0, 0))) (hd : ∃ cs e, w.heap[c]? = some (.cells cs e (0, 0))) :
    (Op.equal 77 (.iface T (.pointer (some ⟨b, 0, none⟩))) (.iface T (.pointer (some ⟨c, 0, none⟩)))).run Tryz.prog w = .ok (b == c) w := by
  obtain ⟨j, hj, hjs⟩ := Option.map_eq_some_iff.1 hs
  obtain ⟨i, hi, his⟩ := Option.map_eq_some_iff.1 hc
  obtain ⟨cs, e, hb⟩ := hb
  obtain ⟨cs', e', hd⟩ := hd
  have h : ∀ d : Nat, (Op.equalIn (d + 1) T (.pointer (some ⟨b, 0, none⟩)) (.pointer (some ⟨c, 0, none⟩))).run Tryz.prog w = .ok (b == c) w := fun d => by
    by_cases e : b = c
    · subst e
      simp [Op.equalIn, run_underlying hu, sizeOf, typeInfo, hj, hjs, run_sameAddr_same]
    · have ho := run_sameAddr_other (P := Tryz.prog) (w := w) (a := ⟨b, 0, none⟩) (b := ⟨c, 0, none⟩) (fun q => e (congrArg Addr.block q)) hb hd
      simp [Op.equalIn, run_underlying hu, sizeOf, typeInfo, hj, hjs, ho, e]
  have h2 : ∀ d : Nat, (Op.equalIn (d + 2) 77 (.iface T (.pointer (some ⟨b, 0, none⟩))) (.iface T (.pointer (some ⟨c, 0, none⟩)))).run Tryz.prog w = .ok (b == c) w := fun d => by
    rw [show d + 2 = (d + 1) + 1 from rfl]
    rw [Op.equalIn]
    simp [run_underlying Tryz.underlying77, typeInfo, hi, his, h d]
  exact h2 9998
theorem eq_kd (k : Kd) (w : World) (b c : Nat) (hb : ∃ cs e, w.heap[b]? = some (.cells cs e (0, 0))) (hd : ∃ cs e, w.heap[c]? = some (.cells cs e (0, 0))) :
    (Op.equal 77 (.iface k.tp (.pointer (some ⟨b, 0, none⟩))) (.iface k.tp (.pointer (some ⟨c, 0, none⟩)))).run Tryz.prog w = .ok (b == c) w := by
  cases k
  · exact eq_ptr _ 148 2 (by kernel_rfl) (by kernel_rfl) (by kernel_rfl) w b c hb hd
  · exact eq_ptr _ 152 1 (by kernel_rfl) (by kernel_rfl) (by kernel_rfl) w b c hb hd
  · exact eq_ptr _ 156 2 (by kernel_rfl) (by kernel_rfl) (by kernel_rfl) w b c hb hd
  · exact eq_ptr _ 160 2 (by kernel_rfl) (by kernel_rfl) (by kernel_rfl) w b c hb hd
theorem eq_no (T U : TypeId) (h : T ≠ U) (x y : Value) (w : World) : (Op.equal 77 (.iface T x) (.iface U y)).run Tryz.prog w = .ok false w := by
  have h2 : ∀ d : Nat, (Op.equalIn (d + 1) 77 (.iface T x) (.iface U y)).run Tryz.prog w = .ok false w := fun d => by
    rw [Op.equalIn]
    simp [run_underlying Tryz.underlying77, h]
  exact h2 9999
theorem Tryz.eqII (w : World) : (Op.equal 77 (.iface 271 (.agg #[.string { data := #[105, 110, 116] }])) (.iface 271 (.agg #[.string { data := #[105, 110, 116] }]))).run Tryz.prog w = .ok true w := by kernel_rfl
theorem Tryz.eqIB (w : World) : (Op.equal 77 (.iface 271 (.agg #[.string { data := #[105, 110, 116] }])) (.iface 271 (.agg #[.string { data := #[98, 111, 111, 108] }]))).run Tryz.prog w = .ok false w := by kernel_rfl
theorem Tryz.eqBI (w : World) : (Op.equal 77 (.iface 271 (.agg #[.string { data := #[98, 111, 111, 108] }])) (.iface 271 (.agg #[.string { data := #[105, 110, 116] }]))).run Tryz.prog w = .ok false w := by kernel_rfl
theorem Tryz.eqBB (w : World) : (Op.equal 77 (.iface 271 (.agg #[.string { data := #[98, 111, 111, 108] }])) (.iface 271 (.agg #[.string { data := #[98, 111, 111, 108] }]))).run Tryz.prog w = .ok true w := by kernel_rfl
theorem Kd.tp_inj {k l : Kd} (h : k ≠ l) : k.tp ≠ l.tp := by cases k <;> cases l <;> first | exact absurd rfl h | (intro e; cases e)
theorem Kd.tp_basic (k : Kd) : k.tp ≠ 271 := by cases k <;> (intro e; cases e)
theorem SW.cells {w : World} {ad : List Nat} {τ : St} (h : SW w ad τ) {i b : Nat} (hb : ad[i]? = some b) : ∃ cs e, w.heap[b]? = some (.cells cs e (0, 0)) := by
  obtain ⟨_, _, _, _, o, _, _, h1, _, h2⟩ := h.mem (List.mem_of_getElem? hb)
  obtain ⟨cs, e, rfl, _⟩ := h2.first
  exact ⟨cs, e, h1⟩
theorem nodup_get {ad : List Nat} (h : ad.Nodup) {i j b : Nat} (hi : ad[i]? = some b) (hj : ad[j]? = some b) : i = j := by
  obtain ⟨l1, e1⟩ := List.getElem?_eq_some_iff.1 hi
  obtain ⟨l2, e2⟩ := List.getElem?_eq_some_iff.1 hj
  have hp := List.pairwise_iff_getElem.1 h
  rcases Nat.lt_trichotomy i j with q | q | q
  · exact (hp i j l1 l2 q (by rw [e1, e2])).elim
  · exact q
  · exact (hp j i l2 l1 q (by rw [e1, e2])).elim
/-- two types are the same value just if they are the same. -/
theorem eq_tr {w : World} {ad : List Nat} {τ : St} (h : SW w ad τ) {r s : TR} {v u : Value} (hv : RV ad r v) (hu : RV ad s u) : (Op.equal 77 v u).run Tryz.prog w = .ok (r.eqb s) w := by
  cases r with
  | int =>
    rw [show v = _ from hv]
    cases s with
    | int => rw [show u = _ from hu]; exact Tryz.eqII w
    | bool => rw [show u = _ from hu]; exact Tryz.eqIB w
    | nd k i => obtain ⟨b, _, rfl⟩ := hu; exact eq_no _ _ k.tp_basic.symm _ _ w
  | bool =>
    rw [show v = _ from hv]
    cases s with
    | int => rw [show u = _ from hu]; exact Tryz.eqBI w
    | bool => rw [show u = _ from hu]; exact Tryz.eqBB w
    | nd k i => obtain ⟨b, _, rfl⟩ := hu; exact eq_no _ _ k.tp_basic.symm _ _ w
  | nd k i =>
    obtain ⟨b, hb, rfl⟩ := hv
    cases s with
    | int => rw [show u = _ from hu]; exact eq_no _ _ k.tp_basic _ _ w
    | bool => rw [show u = _ from hu]; exact eq_no _ _ k.tp_basic _ _ w
    | nd l j =>
      obtain ⟨c, hc, rfl⟩ := hu
      by_cases e : k = l
      · subst e
        rw [eq_kd k w b c (h.cells hb) (h.cells hc)]
        congr 1
        rw [Bool.eq_iff_iff, TR.eqb_iff, beq_iff_eq]
        constructor
        · intro e
          subst e
          rw [nodup_get h.inj hb hc]
        · intro e
          simp only [TR.nd.injEq, true_and] at e
          subst e
          rw [hb] at hc
          simpa using hc
      · rw [eq_no _ _ (Kd.tp_inj e)]
        congr 1
        symm
        rw [TR.eqb_ff]
        intro q
        simp only [TR.nd.injEq] at q
        exact e q.1
theorem ck_tr {w : World} {ad : List Nat} {r : TR} {v : Value} (hv : RV ad r v) (em : Bool) : (Instr.checkKey em 10000 77 v).run Tryz.prog w = .ok () w := by
  cases r with
  | int => rw [show v = _ from hv]; kernel_rfl
  | bool => rw [show v = _ from hv]; kernel_rfl
  | nd k i =>
    obtain ⟨b, _, rfl⟩ := hv
    cases k <;> kernel_rfl
end Go.Proofs.YtleenphlgbklmabGreatDoor
