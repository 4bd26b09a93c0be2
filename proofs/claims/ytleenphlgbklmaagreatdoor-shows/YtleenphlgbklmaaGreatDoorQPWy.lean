import Derived.Test.YtleenphlgbklmaaGreatDoorQPWr
set_option linter.unusedVariables false
set_option linter.unusedSimpArgs false
namespace Go.Proofs.YtleenphlgbklmaaGreatDoor
open Go.RowKit

theorem Tryz.xNaNa (v : Value) (w : World) : (Instr.typeAssert (.iface 257 v) 130 257 true).run Tryz.prog w = .ok (.tuple #[v, .bool true]) w := by kernel_rfl
theorem Tryz.xNaNu (v : Value) (w : World) : (Instr.typeAssert (.iface 257 v) 130 263 true).run Tryz.prog w = .ok (.tuple #[.pointer none, .bool false]) w := by kernel_rfl
theorem Tryz.xNaFu (v : Value) (w : World) : (Instr.typeAssert (.iface 257 v) 130 266 true).run Tryz.prog w = .ok (.tuple #[.pointer none, .bool false]) w := by kernel_rfl
theorem Tryz.xNaIf (v : Value) (w : World) : (Instr.typeAssert (.iface 257 v) 130 269 true).run Tryz.prog w = .ok (.tuple #[.pointer none, .bool false]) w := by kernel_rfl
theorem Tryz.xNaLe (v : Value) (w : World) : (Instr.typeAssert (.iface 257 v) 130 271 true).run Tryz.prog w = .ok (.tuple #[.pointer none, .bool false]) w := by kernel_rfl
theorem Tryz.xNaRe (v : Value) (w : World) : (Instr.typeAssert (.iface 257 v) 130 274 true).run Tryz.prog w = .ok (.tuple #[.pointer none, .bool false]) w := by kernel_rfl
theorem Tryz.xNaAp (v : Value) (w : World) : (Instr.typeAssert (.iface 257 v) 130 276 true).run Tryz.prog w = .ok (.tuple #[.pointer none, .bool false]) w := by kernel_rfl
theorem Tryz.xNaPa (v : Value) (w : World) : (Instr.typeAssert (.iface 257 v) 130 281 true).run Tryz.prog w = .ok (.tuple #[.pointer none, .bool false]) w := by kernel_rfl
theorem Tryz.xNuNa (v : Value) (w : World) : (Instr.typeAssert (.iface 263 v) 130 257 true).run Tryz.prog w = .ok (.tuple #[.pointer none, .bool false]) w := by kernel_rfl
theorem Tryz.xNuNu (v : Value) (w : World) : (Instr.typeAssert (.iface 263 v) 130 263 true).run Tryz.prog w = .ok (.tuple #[v, .bool true]) w := by kernel_rfl
theorem Tryz.xNuFu (v : Value) (w : World) : (Instr.typeAssert (.iface 263 v) 130 266 true).run Tryz.prog w = .ok (.tuple #[.pointer none, .bool false]) w := by kernel_rfl
theorem Tryz.xNuIf (v : Value) (w : World) : (Instr.typeAssert (.iface 263 v) 130 269 true).run Tryz.prog w = .ok (.tuple #[.pointer none, .bool false]) w := by kernel_rfl
theorem Tryz.xNuLe (v : Value) (w : World) : (Instr.typeAssert (.iface 263 v) 130 271 true).run Tryz.prog w = .ok (.tuple #[.pointer none, .bool false]) w := by kernel_rfl
theorem Tryz.xNuRe (v : Value) (w : World) : (Instr.typeAssert (.iface 263 v) 130 274 true).run Tryz.prog w = .ok (.tuple #[.pointer none, .bool false]) w := by kernel_rfl
theorem Tryz.xNuAp (v : Value) (w : World) : (Instr.typeAssert (.iface 263 v) 130 276 true).run Tryz.prog w = .ok (.tuple #[.pointer none, .bool false]) w := by kernel_rfl
theorem Tryz.xNuPa (v : Value) (w : World) : (Instr.typeAssert (.iface 263 v) 130 281 true).run Tryz.prog w = .ok (.tuple #[.pointer none, .bool false]) w := by kernel_rfl
theorem Tryz.xFuNa (v : Value) (w : World) : (Instr.typeAssert (.iface 266 v) 130 257 true).run Tryz.prog w = .ok (.tuple #[.pointer none, .bool false]) w := by kernel_rfl
theorem Tryz.xFuNu (v : Value) (w : World) : (Instr.typeAssert (.iface 266 v) 130 263 true).run Tryz.prog w = .ok (.tuple #[.pointer none, .bool false]) w := by kernel_rfl
theorem Tryz.xFuFu (v : Value) (w : World) : (Instr.typeAssert (.iface 266 v) 130 266 true).run Tryz.prog w = .ok (.tuple #[v, .bool true]) w := by kernel_rfl
theorem Tryz.xFuIf (v : Value) (w : World) : (Instr.typeAssert (.iface 266 v) 130 269 true).run Tryz.prog w = .ok (.tuple #[.pointer none, .bool false]) w := by kernel_rfl
theorem Tryz.xFuLe (v : Value) (w : World) : (Instr.typeAssert (.iface 266 v) 130 271 true).run Tryz.prog w = .ok (.tuple #[.pointer none, .bool false]) w := by kernel_rfl
theorem Tryz.xFuRe (v : Value) (w : World) : (Instr.typeAssert (.iface 266 v) 130 274 true).run Tryz.prog w = .ok (.tuple #[.pointer none, .bool false]) w := by kernel_rfl
theorem Tryz.xFuAp (v : Value) (w : World) : (Instr.typeAssert (.iface 266 v) 130 276 true).run Tryz.prog w = .ok (.tuple #[.pointer none, .bool false]) w := by kernel_rfl
theorem Tryz.xFuPa (v : Value) (w : World) : (Instr.typeAssert (.iface 266 v) 130 281 true).run Tryz.prog w = .ok (.tuple #[.pointer none, .bool false]) w := by kernel_rfl
theorem Tryz.xIfNa (v : Value) (w : World) : (Instr.typeAssert (.iface 269 v) 130 257 true).run Tryz.prog w = .ok (.tuple #[.pointer none, .bool false]) w := by kernel_rfl
theorem Tryz.xIfNu (v : Value) (w : World) : (Instr.typeAssert (.iface 269 v) 130 263 true).run Tryz.prog w = .ok (.tuple #[.pointer none, .bool false]) w := by kernel_rfl
theorem Tryz.xIfFu (v : Value) (w : World) : (Instr.typeAssert (.iface 269 v) 130 266 true).run Tryz.prog w = .ok (.tuple #[.pointer none, .bool false]) w := by kernel_rfl
theorem Tryz.xIfIf (v : Value) (w : World) : (Instr.typeAssert (.iface 269 v) 130 269 true).run Tryz.prog w = .ok (.tuple #[v, .bool true]) w := by kernel_rfl
theorem Tryz.xIfLe (v : Value) (w : World) : (Instr.typeAssert (.iface 269 v) 130 271 true).run Tryz.prog w = .ok (.tuple #[.pointer none, .bool false]) w := by kernel_rfl
theorem Tryz.xIfRe (v : Value) (w : World) : (Instr.typeAssert (.iface 269 v) 130 274 true).run Tryz.prog w = .ok (.tuple #[.pointer none, .bool false]) w := by kernel_rfl
theorem Tryz.xIfAp (v : Value) (w : World) : (Instr.typeAssert (.iface 269 v) 130 276 true).run Tryz.prog w = .ok (.tuple #[.pointer none, .bool false]) w := by kernel_rfl
theorem Tryz.xIfPa (v : Value) (w : World) : (Instr.typeAssert (.iface 269 v) 130 281 true).run Tryz.prog w = .ok (.tuple #[.pointer none, .bool false]) w := by kernel_rfl
theorem Tryz.xLeNa (v : Value) (w : World) : (Instr.typeAssert (.iface 271 v) 130 257 true).run Tryz.prog w = .ok (.tuple #[.pointer none, .bool false]) w := by kernel_rfl
theorem Tryz.xLeNu (v : Value) (w : World) : (Instr.typeAssert (.iface 271 v) 130 263 true).run Tryz.prog w = .ok (.tuple #[.pointer none, .bool false]) w := by kernel_rfl
theorem Tryz.xLeFu (v : Value) (w : World) : (Instr.typeAssert (.iface 271 v) 130 266 true).run Tryz.prog w = .ok (.tuple #[.pointer none, .bool false]) w := by kernel_rfl
theorem Tryz.xLeIf (v : Value) (w : World) : (Instr.typeAssert (.iface 271 v) 130 269 true).run Tryz.prog w = .ok (.tuple #[.pointer none, .bool false]) w := by kernel_rfl
theorem Tryz.xLeLe (v : Value) (w : World) : (Instr.typeAssert (.iface 271 v) 130 271 true).run Tryz.prog w = .ok (.tuple #[v, .bool true]) w := by kernel_rfl
theorem Tryz.xLeRe (v : Value) (w : World) : (Instr.typeAssert (.iface 271 v) 130 274 true).run Tryz.prog w = .ok (.tuple #[.pointer none, .bool false]) w := by kernel_rfl
theorem Tryz.xLeAp (v : Value) (w : World) : (Instr.typeAssert (.iface 271 v) 130 276 true).run Tryz.prog w = .ok (.tuple #[.pointer none, .bool false]) w := by kernel_rfl
theorem Tryz.xLePa (v : Value) (w : World) : (Instr.typeAssert (.iface 271 v) 130 281 true).run Tryz.prog w = .ok (.tuple #[.pointer none, .bool false]) w := by kernel_rfl
theorem Tryz.xReNa (v : Value) (w : World) : (Instr.typeAssert (.iface 274 v) 130 257 true).run Tryz.prog w = .ok (.tuple #[.pointer none, .bool false]) w := by kernel_rfl
theorem Tryz.xReNu (v : Value) (w : World) : (Instr.typeAssert (.iface 274 v) 130 263 true).run Tryz.prog w = .ok (.tuple #[.pointer none, .bool false]) w := by kernel_rfl
theorem Tryz.xReFu (v : Value) (w : World) : (Instr.typeAssert (.iface 274 v) 130 266 true).run Tryz.prog w = .ok (.tuple #[.pointer none, .bool false]) w := by kernel_rfl
theorem Tryz.xReIf (v : Value) (w : World) : (Instr.typeAssert (.iface 274 v) 130 269 true).run Tryz.prog w = .ok (.tuple #[.pointer none, .bool false]) w := by kernel_rfl
theorem Tryz.xReLe (v : Value) (w : World) : (Instr.typeAssert (.iface 274 v) 130 271 true).run Tryz.prog w = .ok (.tuple #[.pointer none, .bool false]) w := by kernel_rfl
theorem Tryz.xReRe (v : Value) (w : World) : (Instr.typeAssert (.iface 274 v) 130 274 true).run Tryz.prog w = .ok (.tuple #[v, .bool true]) w := by kernel_rfl
theorem Tryz.xReAp (v : Value) (w : World) : (Instr.typeAssert (.iface 274 v) 130 276 true).run Tryz.prog w = .ok (.tuple #[.pointer none, .bool false]) w := by kernel_rfl
theorem Tryz.xRePa (v : Value) (w : World) : (Instr.typeAssert (.iface 274 v) 130 281 true).run Tryz.prog w = .ok (.tuple #[.pointer none, .bool false]) w := by kernel_rfl
theorem Tryz.xApNa (v : Value) (w : World) : (Instr.typeAssert (.iface 276 v) 130 257 true).run Tryz.prog w = .ok (.tuple #[.pointer none, .bool false]) w := by kernel_rfl
theorem Tryz.xApNu (v : Value) (w : World) : (Instr.typeAssert (.iface 276 v) 130 263 true).run Tryz.prog w = .ok (.tuple #[.pointer none, .bool false]) w := by kernel_rfl
theorem Tryz.xApFu (v : Value) (w : World) : (Instr.typeAssert (.iface 276 v) 130 266 true).run Tryz.prog w = .ok (.tuple #[.pointer none, .bool false]) w := by kernel_rfl
theorem Tryz.xApIf (v : Value) (w : World) : (Instr.typeAssert (.iface 276 v) 130 269 true).run Tryz.prog w = .ok (.tuple #[.pointer none, .bool false]) w := by kernel_rfl
theorem Tryz.xApLe (v : Value) (w : World) : (Instr.typeAssert (.iface 276 v) 130 271 true).run Tryz.prog w = .ok (.tuple #[.pointer none, .bool false]) w := by kernel_rfl
theorem Tryz.xApRe (v : Value) (w : World) : (Instr.typeAssert (.iface 276 v) 130 274 true).run Tryz.prog w = .ok (.tuple #[.pointer none, .bool false]) w := by kernel_rfl
theorem Tryz.xApAp (v : Value) (w : World) : (Instr.typeAssert (.iface 276 v) 130 276 true).run Tryz.prog w = .ok (.tuple #[v, .bool true]) w := by kernel_rfl
theorem Tryz.xApPa (v : Value) (w : World) : (Instr.typeAssert (.iface 276 v) 130 281 true).run Tryz.prog w = .ok (.tuple #[.pointer none, .bool false]) w := by kernel_rfl
theorem Tryz.xPaNa (v : Value) (w : World) : (Instr.typeAssert (.iface 281 v) 130 257 true).run Tryz.prog w = .ok (.tuple #[.pointer none, .bool false]) w := by kernel_rfl
theorem Tryz.xPaNu (v : Value) (w : World) : (Instr.typeAssert (.iface 281 v) 130 263 true).run Tryz.prog w = .ok (.tuple #[.pointer none, .bool false]) w := by kernel_rfl
theorem Tryz.xPaFu (v : Value) (w : World) : (Instr.typeAssert (.iface 281 v) 130 266 true).run Tryz.prog w = .ok (.tuple #[.pointer none, .bool false]) w := by kernel_rfl
theorem Tryz.xPaIf (v : Value) (w : World) : (Instr.typeAssert (.iface 281 v) 130 269 true).run Tryz.prog w = .ok (.tuple #[.pointer none, .bool false]) w := by kernel_rfl
theorem Tryz.xPaLe (v : Value) (w : World) : (Instr.typeAssert (.iface 281 v) 130 271 true).run Tryz.prog w = .ok (.tuple #[.pointer none, .bool false]) w := by kernel_rfl
theorem Tryz.xPaRe (v : Value) (w : World) : (Instr.typeAssert (.iface 281 v) 130 274 true).run Tryz.prog w = .ok (.tuple #[.pointer none, .bool false]) w := by kernel_rfl
theorem Tryz.xPaAp (v : Value) (w : World) : (Instr.typeAssert (.iface 281 v) 130 276 true).run Tryz.prog w = .ok (.tuple #[.pointer none, .bool false]) w := by kernel_rfl
theorem Tryz.xPaPa (v : Value) (w : World) : (Instr.typeAssert (.iface 281 v) 130 281 true).run Tryz.prog w = .ok (.tuple #[v, .bool true]) w := by kernel_rfl
theorem KB.xk {B b : Nat} {w w' : World} {x : Value} {bs : List Value} (h : KB B b w w') (hW : BW 187 w B b x bs) : XKeep w w' := fun k cs e f he hk => by
  refine h.oth k cs e f (fun z => ?_) (fun z => ?_) hk
  · obtain ⟨_, p, v, _, hbk, _⟩ := hW
    rw [z, hbk] at hk
    simp only [Option.some.injEq, Obj.cells.injEq] at hk
    rw [← hk.2.1] at he
    exact absurd he (by decide)
  · rw [z] at he
    exact absurd he (by decide)
theorem BW.alloc {H : TypeId} {w : World} {B b : Nat} {x : Value} {bs : List Value} (h : BW H w B b x bs) (o : Obj) : BW H (w.alloc o) B b x bs := by
  have k := (Kp.refl (fun _ => False) w).alloc o
  obtain ⟨hB, p, v, hp, hbk, hown, hne⟩ := h
  exact ⟨hB, p, v, hp, k.blk hbk (fun z => z), row_same (P := fun _ => True) (fun b _ hb => k.block b hb (fun z => z)) (fun _ _ => trivial) hown, hne⟩
theorem BW.drewN {H : TypeId} {w : World} {B b : Nat} {x : Value} {bs : List Value} (h : BW H w B b x bs) (n : Nat) : BW H (w.drewN n) B b x bs := h
/-- tokens, as a call lays them. -/
theorem wtok {B b : Nat} {w : World} {last : ByteArray} {bs : List Value} (h : BW 187 w B b (.string last) bs) (ts : List ByteArray) (hlen : bs.length + (ts.map fun t => t.size + 1).sum ≤ 100000000) (hts : ts.length ≤ 1000000) :
    Calls Tryz.prog 135 #[.pointer (some ⟨b, 0, none⟩), .slice (some ⟨w.heap.size, 0, none⟩) ts.length ts.length] (w.alloc (.cells (ts.map Value.string).toArray 9)) fun e w' => e = .returned (.tuple #[]) ∧ BW 187 w' B b (.string (lst last ts)) (bs ++ Lib.strCells (em last ts)) ∧ KB B b w w' := by
  refine (ptoks_any B b w.heap.size ts.length ts _ last bs (h.alloc _) (heap_alloc_new _ _) hlen hts).mono ?_
  rintro e w' ⟨h1, h2, h3⟩
  exact ⟨h1, h2, (KB.alloc B b w _).trans h3⟩
/-- exp writes an expression's text. -/
def SWX (x : X) : Prop := ∀ (v : Value) (w : World) (P : Nat → Prop) (B b : Nat) (last : ByteArray) (bs : List Value), PX w P x v → BW 187 w B b (.string last) bs → bs.length + tw x + 1 ≤ 10000000 →
  Calls Tryz.prog 100 #[.pointer (some ⟨b, 0, none⟩), v] w fun e w' => e = .returned (.tuple #[]) ∧ ∃ last', opn last' = false ∧ BW 187 w' B b (.string last') (bs ++ Lib.strCells (pre last ++ txt x)) ∧ KB B b w w'
end Go.Proofs.YtleenphlgbklmaaGreatDoor

namespace Go.Proofs.YtleenphlgbklmaaGreatDoor
open Go.RowKit

theorem bne_of {a b : ByteArray} (h : a.data.toList ≠ b.data.toList) : a ≠ b := fun e => h (by rw [e])
theorem PX.wf {w : World} {P : Nat → Prop} {x : X} {v : Value} (h : PX w P x v) : WF x := by
  induction h with
  | name n loc b hW hP h => exact .leaf _ _ _ (.inl rfl)
  | num n loc b hW hP h => exact .leaf _ _ _ (.inr rfl)
  | fn n x loc b p hW hP h _ i0 => exact .fn _ _ _ i0
  | ite x y z loc b p q r hP h _ _ _ i0 i1 i2 => exact .ite _ _ _ _ i0 i1 i2
  | lt n x y loc b p q hW hP h _ _ i0 i1 =>
    refine .lt _ _ _ _ (.inl rfl) rfl (by simp) ?_
    intro a ha
    simp only [List.mem_cons, List.not_mem_nil, or_false] at ha
    rcases ha with rfl | rfl
    · exact i0
    · exact i1
  | app x y loc b p q hP h _ _ i0 i1 => exact .app _ _ _ i0 i1
  | pair x y loc b p q hP h _ _ i0 i1 => exact .pair _ _ _ i0 i1
  | rc names kids y loc b nv vv q ps hN hW hP h hn hv hnP hvP hl hl2 _ _ i j =>
    refine .lt _ _ _ _ (.inr rfl) (by simp [hl2]) hN ?_
    intro a ha
    rcases List.mem_append.1 ha with ha | ha
    · obtain ⟨k, hk, rfl⟩ := List.getElem_of_mem ha
      exact i k _ ps[k] (by simp [hk]) (by simp [hl, hk])
    · simp only [List.mem_cons, List.not_mem_nil, or_false] at ha
      rw [ha]
      exact j
theorem txt_name (n : ByteArray) (loc : Nat) : txt (.mk { data := #[110, 97, 109, 101] } [n] [] loc) = n := by
  rw [txt]
  rw [if_neg (bne_of (by decide)), if_neg (bne_of (by decide)), if_neg (bne_of (by decide)), if_neg (bne_of (by decide)), if_neg (bne_of (by decide)), if_neg (bne_of (by decide))]
  rfl
theorem txt_num (n : ByteArray) (loc : Nat) : txt (.mk { data := #[110, 117, 109] } [n] [] loc) = n := by
  rw [txt]
  rw [if_neg (bne_of (by decide)), if_neg (bne_of (by decide)), if_neg (bne_of (by decide)), if_neg (bne_of (by decide)), if_neg (bne_of (by decide)), if_neg (bne_of (by decide))]
  rfl
theorem txt_fn (n : ByteArray) (x : X) (loc : Nat) : txt (.mk { data := #[102, 117, 110] } [n] [x] loc) = { data := #[102, 117, 110, 32] } ++ n ++ { data := #[32, 45, 62, 32] } ++ txt x := by
  rw [txt]
  rw [if_pos rfl]
  simp [txts]
theorem txt_pair (x y : X) (loc : Nat) : txt (.mk { data := #[112, 97, 105, 114] } [] [x, y] loc) = { data := #[40] } ++ txt x ++ { data := #[44, 32] } ++ txt y ++ { data := #[41] } := by
  rw [txt]
  rw [if_neg (bne_of (by decide)), if_pos rfl]
  simp [txts]
theorem txt_ite (x y z : X) (loc : Nat) : txt (.mk { data := #[105, 102] } [] [x, y, z] loc) = { data := #[105, 102, 32] } ++ txt x ++ { data := #[32, 116, 104, 101, 110, 32] } ++ txt y ++ { data := #[32, 101, 108, 115, 101, 32] } ++ txt z := by
  rw [txt]
  rw [if_neg (bne_of (by decide)), if_neg (bne_of (by decide)), if_pos rfl]
  simp [txts]
theorem txt_app (x y : X) (loc : Nat) : txt (.mk { data := #[97, 112, 112] } [] [x, y] loc) = brk (needsF x.op) (txt x) ++ { data := #[32] } ++ brk (needsA y.op) (txt y) := by
  rw [txt]
  rw [if_neg (bne_of (by decide)), if_neg (bne_of (by decide)), if_neg (bne_of (by decide)), if_pos rfl]
  simp [txts]
theorem txt_let (n : ByteArray) (x y : X) (loc : Nat) : txt (.mk { data := #[108, 101, 116] } [n] [x, y] loc) = { data := #[108, 101, 116, 32] } ++ (n ++ { data := #[32, 61, 32] } ++ txt x) ++ { data := #[32, 105, 110, 32] } ++ txt y := by
  rw [txt]
  rw [if_neg (bne_of (by decide)), if_neg (bne_of (by decide)), if_neg (bne_of (by decide)), if_neg (bne_of (by decide)), if_pos rfl]
  simp [txts, letT]
theorem bytes_ext {a b : ByteArray} (h : a.data.toList = b.data.toList) : a = b := ByteArray.ext (Array.toList_inj.1 h)
theorem bytes_app (a b : ByteArray) : (a ++ b).data.toList = a.data.toList ++ b.data.toList := by simp
theorem wtok1 {B b : Nat} {w : World} {last : ByteArray} {bs : List Value} (h : BW 187 w B b (.string last) bs) (t : ByteArray) (hlen : bs.length + (t.size + 1) ≤ 100000000) :
    Calls Tryz.prog 135 #[.pointer (some ⟨b, 0, none⟩), .slice (some ⟨w.heap.size, 0, none⟩) 1 1] (w.alloc (.cells #[.string t] 9)) fun e w' => e = .returned (.tuple #[]) ∧ BW 187 w' B b (.string t) (bs ++ Lib.strCells (sep last t ++ t)) ∧ KB B b w w' := by
  have h := wtok h [t] (by simpa using hlen) (by simp)
  rw [em_one] at h
  exact h
theorem em_two (l t u : ByteArray) : em l [t, u] = sep l t ++ t ++ (sep t u ++ u) := by
  show sep l t ++ t ++ em t [u] = _
  rw [em_one]
theorem em_three (l t u v : ByteArray) : em l [t, u, v] = sep l t ++ t ++ (sep t u ++ u ++ (sep u v ++ v)) := by
  show sep l t ++ t ++ em t [u, v] = _
  rw [em_two]
theorem wtok2 {B b : Nat} {w : World} {last : ByteArray} {bs : List Value} (h : BW 187 w B b (.string last) bs) (t u : ByteArray) (hlen : bs.length + (t.size + 1 + (u.size + 1)) ≤ 100000000) :
    Calls Tryz.prog 135 #[.pointer (some ⟨b, 0, none⟩), .slice (some ⟨w.heap.size, 0, none⟩) 2 2] (w.alloc (.cells #[.string t, .string u] 9)) fun e w' => e = .returned (.tuple #[]) ∧ BW 187 w' B b (.string u) (bs ++ Lib.strCells (sep last t ++ t ++ (sep t u ++ u))) ∧ KB B b w w' := by
  have h := wtok h [t, u] (by simpa using hlen) (by simp)
  rw [em_two] at h
  exact h
theorem wtok3 {B b : Nat} {w : World} {last : ByteArray} {bs : List Value} (h : BW 187 w B b (.string last) bs) (t u v : ByteArray) (hlen : bs.length + (t.size + 1 + (u.size + 1 + (v.size + 1))) ≤ 100000000) :
    Calls Tryz.prog 135 #[.pointer (some ⟨b, 0, none⟩), .slice (some ⟨w.heap.size, 0, none⟩) 3 3] (w.alloc (.cells #[.string t, .string u, .string v] 9)) fun e w' => e = .returned (.tuple #[]) ∧ BW 187 w' B b (.string v) (bs ++ Lib.strCells (sep last t ++ t ++ (sep t u ++ u ++ (sep u v ++ v)))) ∧ KB B b w w' := by
  have h := wtok h [t, u, v] (by simpa using hlen) (by simp)
  rw [em_three] at h
  exact h
theorem len_app (bs : List Value) (a : ByteArray) : (bs ++ Lib.strCells a).length = bs.length + a.size := by rw [List.length_append, Lib.strCells_length]
theorem pre_size (l : ByteArray) : (pre l).size ≤ 1 := by
  unfold pre
  split <;> decide
theorem PX.sz {w : World} {P : Nat → Prop} {x : X} {v : Value} (h : PX w P x v) (l : ByteArray) : (pre l ++ txt x).size ≤ tw x + 1 := by
  have := txt_size x h.wf
  have := pre_size l
  rw [ByteArray.size_append]
  omega
theorem sC_join (bs : List Value) (a c : ByteArray) : bs ++ Lib.strCells a ++ Lib.strCells c = bs ++ Lib.strCells (a ++ c) := by rw [sC_app, List.append_assoc]
/-- tokens and expressions as steps: what is added is hidden, but for its length. -/
theorem tk1 {B b : Nat} {w : World} {last : ByteArray} {bs : List Value} (h : BW 187 w B b (.string last) bs) (t : ByteArray) (k : Nat) (hk : t.size + 1 ≤ k) (hlen : bs.length + k ≤ 100000000) :
    Calls Tryz.prog 135 #[.pointer (some ⟨b, 0, none⟩), .slice (some ⟨w.heap.size, 0, none⟩) 1 1] (w.alloc (.cells #[.string t] 9)) fun e w' => e = .returned (.tuple #[]) ∧ ∃ bs', Hid (bs' = bs ++ Lib.strCells (sep last t ++ t)) ∧ bs'.length ≤ bs.length + k ∧ BW 187 w' B b (.string t) bs' ∧ KB B b w w' := by
  refine (wtok1 h t (by omega)).mono ?_
  rintro e w' ⟨rfl, hW, hK⟩
  refine ⟨rfl, _, rfl, ?_, hW, hK⟩
  have := sep_size last t
  rw [len_app, ByteArray.size_append]
  omega
theorem tk2 {B b : Nat} {w : World} {last : ByteArray} {bs : List Value} (h : BW 187 w B b (.string last) bs) (t u : ByteArray) (k : Nat) (hk : t.size + 1 + (u.size + 1) ≤ k) (hlen : bs.length + k ≤ 100000000) :
    Calls Tryz.prog 135 #[.pointer (some ⟨b, 0, none⟩), .slice (some ⟨w.heap.size, 0, none⟩) 2 2] (w.alloc (.cells #[.string t, .string u] 9)) fun e w' => e = .returned (.tuple #[]) ∧ ∃ bs', Hid (bs' = bs ++ Lib.strCells (sep last t ++ t ++ (sep t u ++ u))) ∧ bs'.length ≤ bs.length + k ∧ BW 187 w' B b (.string u) bs' ∧ KB B b w w' := by
  refine (wtok2 h t u (by omega)).mono ?_
  rintro e w' ⟨rfl, hW, hK⟩
  refine ⟨rfl, _, rfl, ?_, hW, hK⟩
  have := sep_size last t
  have := sep_size t u
  rw [len_app, ByteArray.size_append, ByteArray.size_append, ByteArray.size_append]
  omega
theorem tk3 {B b : Nat} {w : World} {last : ByteArray} {bs : List Value} (h : BW 187 w B b (.string last) bs) (t u v : ByteArray) (k : Nat) (hk : t.size + 1 + (u.size + 1 + (v.size + 1)) ≤ k) (hlen : bs.length + k ≤ 100000000) :
    Calls Tryz.prog 135 #[.pointer (some ⟨b, 0, none⟩), .slice (some ⟨w.heap.size, 0, none⟩) 3 3] (w.alloc (.cells #[.string t, .string u, .string v] 9)) fun e w' => e = .returned (.tuple #[]) ∧ ∃ bs', Hid (bs' = bs ++ Lib.strCells (sep last t ++ t ++ (sep t u ++ u ++ (sep u v ++ v)))) ∧ bs'.length ≤ bs.length + k ∧ BW 187 w' B b (.string v) bs' ∧ KB B b w w' := by
  refine (wtok3 h t u v (by omega)).mono ?_
  rintro e w' ⟨rfl, hW, hK⟩
  refine ⟨rfl, _, rfl, ?_, hW, hK⟩
  have := sep_size last t
  have := sep_size t u
  have := sep_size u v
  rw [len_app, ByteArray.size_append, ByteArray.size_append, ByteArray.size_append, ByteArray.size_append, ByteArray.size_append]
  omega
theorem xg {x : X} (ih : SWX x) {v : Value} {w : World} {P : Nat → Prop} {B b : Nat} {last : ByteArray} {bs : List Value} (hx : PX w P x v) (hW : BW 187 w B b (.string last) bs) (hlen : bs.length + tw x + 1 ≤ 10000000) :
    Calls Tryz.prog 100 #[.pointer (some ⟨b, 0, none⟩), v] w fun e w' => e = .returned (.tuple #[]) ∧ ∃ last' bs', opn last' = false ∧ Hid (bs' = bs ++ Lib.strCells (pre last ++ txt x)) ∧ bs'.length ≤ bs.length + tw x + 1 ∧ BW 187 w' B b (.string last') bs' ∧ KB B b w w' := by
  refine (ih v w P B b last bs hx hW hlen).mono ?_
  rintro e w' ⟨rfl, l, ho, hW, hK⟩
  refine ⟨rfl, l, _, ho, rfl, ?_, hW, hK⟩
  have := hx.sz last
  rw [len_app]
  omega
end Go.Proofs.YtleenphlgbklmaaGreatDoor
