import Derived.Test.YtleenphlgbklmabGreatDoorXPCk
set_option linter.unusedVariables false
set_option linter.unusedSimpArgs false
namespace Go.Proofs.YtleenphlgbklmabGreatDoor
open Go.RowKit

theorem bne_of {a b : ByteArray} (h : a.data.toList ≠ b.data.toList) : a ≠ b := fun e => h (by rw [e])
theorem PX.wf {w : World} {P : Nat → Prop} {x : X} {v : Value} (h : PX w P x v) : WF x := by
  induction h with
  | name n loc b hW hP h => exact .leaf _ _ _ (.inl rfl)
  | num n loc b hW hP h => exact .leaf _ _ _ (.inr rfl)
  | fn n x loc b p hW hP h _ i0 => exact .fn _ _ _ i0
  | ite x y z loc b p q r hP h _ _ _ i0 i1 i2 => exact .ite _ _ _ _ i0 i1 i2
  | lt n x y loc b p q hW hP h _ _ i0 i1 =>
    refine .lt _ _ _ _ (.inl rfl) rfl (by simp) ?_
    intro a ha
    simp only [List.mem_cons, List.not_mem_nil, or_false] at ha
    rcases ha with rfl | rfl
    · exact i0
    · exact i1
  | app x y loc b p q hP h _ _ i0 i1 => exact .app _ _ _ i0 i1
  | pair x y loc b p q hP h _ _ i0 i1 => exact .pair _ _ _ i0 i1
  | rc names kids y loc b nv vv q ps hN hW hP h hn hv hnP hvP hl hl2 _ _ i j =>
    refine .lt _ _ _ _ (.inr rfl) (by simp [hl2]) hN ?_
    intro a ha
    rcases List.mem_append.1 ha with ha | ha
    · obtain ⟨k, hk, rfl⟩ := List.getElem_of_mem ha
      exact i k _ ps[k] (by simp [hk]) (by simp [hl, hk])
    · simp only [List.mem_cons, List.not_mem_nil, or_false] at ha
      rw [ha]
      exact j
theorem txt_name (n : ByteArray) (loc : Nat) : txt (.mk { data := #[110, 97, 109, 101] } [n] [] loc) = n := by
  rw [txt]
  rw [if_neg (bne_of (by decide)), if_neg (bne_of (by decide)), if_neg (bne_of (by decide)), if_neg (bne_of (by decide)), if_neg (bne_of (by decide)), if_neg (bne_of (by decide))]
  rfl
theorem txt_num (n : ByteArray) (loc : Nat) : txt (.mk { data := #[110, 117, 109] } [n] [] loc) = n := by
  rw [txt]
  rw [if_neg (bne_of (by decide)), if_neg (bne_of (by decide)), if_neg (bne_of (by decide)), if_neg (bne_of (by decide)), if_neg (bne_of (by decide)), if_neg (bne_of (by decide))]
  rfl
theorem txt_fn (n : ByteArray) (x : X) (loc : Nat) : txt (.mk { data := #[102, 117, 110] } [n] [x] loc) = { data := #[102, 117, 110, 32] } ++ n ++ { data := #[32, 45, 62, 32] } ++ txt x := by
  rw [txt]
  rw [if_pos rfl]
  simp [txts]
theorem txt_pair (x y : X) (loc : Nat) : txt (.mk { data := #[112, 97, 105, 114] } [] [x, y] loc) = { data := #[40] } ++ txt x ++ { data := #[44, 32] } ++ txt y ++ { data := #[41] } := by
  rw [txt]
  rw [if_neg (bne_of (by decide)), if_pos rfl]
  simp [txts]
theorem txt_ite (x y z : X) (loc : Nat) : txt (.mk { data := #[105, 102] } [] [x, y, z] loc) = { data := #[105, 102, 32] } ++ txt x ++ { data := #[32, 116, 104, 101, 110, 32] } ++ txt y ++ { data := #[32, 101, 108, 115, 101, 32] } ++ txt z := by
  rw [txt]
  rw [if_neg (bne_of (by decide)), if_neg (bne_of (by decide)), if_pos rfl]
  simp [txts]
theorem txt_app (x y : X) (loc : Nat) : txt (.mk { data := #[97, 112, 112] } [] [x, y] loc) = brk (needsF x.op) (txt x) ++ { data := #[32] } ++ brk (needsA y.op) (txt y) := by
  rw [txt]
  rw [if_neg (bne_of (by decide)), if_neg (bne_of (by decide)), if_neg (bne_of (by decide)), if_pos rfl]
  simp [txts]
theorem txt_let (n : ByteArray) (x y : X) (loc : Nat) : txt (.mk { data := #[108, 101, 116] } [n] [x, y] loc) = { data := #[108, 101, 116, 32] } ++ (n ++ { data := #[32, 61, 32] } ++ txt x) ++ { data := #[32, 105, 110, 32] } ++ txt y := by
  rw [txt]
  rw [if_neg (bne_of (by decide)), if_neg (bne_of (by decide)), if_neg (bne_of (by decide)), if_neg (bne_of (by decide)), if_pos rfl]
  simp [txts, letT]
theorem bytes_ext {a b : ByteArray} (h : a.data.toList = b.data.toList) : a = b := ByteArray.ext (Array.toList_inj.1 h)
theorem bytes_app (a b : ByteArray) : (a ++ b).data.toList = a.data.toList ++ b.data.toList := by simp
theorem wtok1 {B b : Nat} {w : World} {last : ByteArray} {bs : List Value} (h : BW 182 w B b (.string last) bs) (t : ByteArray) (hlen : bs.length + (t.size + 1) ≤ 100000000) :
    Calls Tryz.prog 112 #[.pointer (some ⟨b, 0, none⟩), .slice (some ⟨w.heap.size, 0, none⟩) 1 1] (w.alloc (.cells #[.string t] 9)) fun e w' => e = .returned (.tuple #[]) ∧ BW 182 w' B b (.string t) (bs ++ Lib.strCells (sep last t ++ t)) ∧ KB B b w w' := by
  have h := wtok h [t] (by simpa using hlen) (by simp)
  rw [em_one] at h
  exact h
theorem em_two (l t u : ByteArray) : em l [t, u] = sep l t ++ t ++ (sep t u ++ u) := by
  show sep l t ++ t ++ em t [u] = _
  rw [em_one]
theorem em_three (l t u v : ByteArray) : em l [t, u, v] = sep l t ++ t ++ (sep t u ++ u ++ (sep u v ++ v)) := by
  show sep l t ++ t ++ em t [u, v] = _
  rw [em_two]
theorem wtok2 {B b : Nat} {w : World} {last : ByteArray} {bs : List Value} (h : BW 182 w B b (.string last) bs) (t u : ByteArray) (hlen : bs.length + (t.size + 1 + (u.size + 1)) ≤ 100000000) :
    Calls Tryz.prog 112 #[.pointer (some ⟨b, 0, none⟩), .slice (some ⟨w.heap.size, 0, none⟩) 2 2] (w.alloc (.cells #[.string t, .string u] 9)) fun e w' => e = .returned (.tuple #[]) ∧ BW 182 w' B b (.string u) (bs ++ Lib.strCells (sep last t ++ t ++ (sep t u ++ u))) ∧ KB B b w w' := by
  have h := wtok h [t, u] (by simpa using hlen) (by simp)
  rw [em_two] at h
  exact h
theorem wtok3 {B b : Nat} {w : World} {last : ByteArray} {bs : List Value} (h : BW 182 w B b (.string last) bs) (t u v : ByteArray) (hlen : bs.length + (t.size + 1 + (u.size + 1 + (v.size + 1))) ≤ 100000000) :
    Calls Tryz.prog 112 #[.pointer (some ⟨b, 0, none⟩), .slice (some ⟨w.heap.size, 0, none⟩) 3 3] (w.alloc (.cells #[.string t, .string u, .string v] 9)) fun e w' => e = .returned (.tuple #[]) ∧ BW 182 w' B b (.string v) (bs ++ Lib.strCells (sep last t ++ t ++ (sep t u ++ u ++ (sep u v ++ v)))) ∧ KB B b w w' := by
  have h := wtok h [t, u, v] (by simpa using hlen) (by simp)
  rw [em_three] at h
  exact h
theorem len_app (bs : List Value) (a : ByteArray) : (bs ++ Lib.strCells a).length = bs.length + a.size := by rw [List.length_append, Lib.strCells_length]
theorem pre_size (l : ByteArray) : (pre l).size ≤ 1 := by
  unfold pre
  split <;> decide
theorem PX.sz {w : World} {P : Nat → Prop} {x : X} {v : Value} (h : PX w P x v) (l : ByteArray) : (pre l ++ txt x).size ≤ tw x + 1 := by
  have := txt_size x h.wf
  have := pre_size l
  rw [ByteArray.size_append]
  omega
theorem sC_join (bs : List Value) (a c : ByteArray) : bs ++ Lib.strCells a ++ Lib.strCells c = bs ++ Lib.strCells (a ++ c) := by rw [sC_app, List.append_assoc]
/-- tokens and expressions as steps: what is added is hidden, but for its length. -/
theorem tk1 {B b : Nat} {w : World} {last : ByteArray} {bs : List Value} (h : BW 182 w B b (.string last) bs) (t : ByteArray) (k : Nat) (hk : t.size + 1 ≤ k) (hlen : bs.length + k ≤ 100000000) :
    Calls Tryz.prog 112 #[.pointer (some ⟨b, 0, none⟩), .slice (some ⟨w.heap.size, 0, none⟩) 1 1] (w.alloc (.cells #[.string t] 9)) fun e w' => e = .returned (.tuple #[]) ∧ ∃ bs', Hid (bs' = bs ++ Lib.strCells (sep last t ++ t)) ∧ bs'.length ≤ bs.length + k ∧ BW 182 w' B b (.string t) bs' ∧ KB B b w w' := by
  refine (wtok1 h t (by omega)).mono ?_
  rintro e w' ⟨rfl, hW, hK⟩
  refine ⟨rfl, _, rfl, ?_, hW, hK⟩
  have := sep_size last t
  rw [len_app, ByteArray.size_append]
  omega
theorem tk2 {B b : Nat} {w : World} {last : ByteArray} {bs : List Value} (h : BW 182 w B b (.string last) bs) (t u : ByteArray) (k : Nat) (hk : t.size + 1 + (u.size + 1) ≤ k) (hlen : bs.length + k ≤ 100000000) :
    Calls Tryz.prog 112 #[.pointer (some ⟨b, 0, none⟩), .slice (some ⟨w.heap.size, 0, none⟩) 2 2] (w.alloc (.cells #[.string t, .string u] 9)) fun e w' => e = .returned (.tuple #[]) ∧ ∃ bs', Hid (bs' = bs ++ Lib.strCells (sep last t ++ t ++ (sep t u ++ u))) ∧ bs'.length ≤ bs.length + k ∧ BW 182 w' B b (.string u) bs' ∧ KB B b w w' := by
  refine (wtok2 h t u (by omega)).mono ?_
  rintro e w' ⟨rfl, hW, hK⟩
  refine ⟨rfl, _, rfl, ?_, hW, hK⟩
  have := sep_size last t
  have := sep_size t u
  rw [len_app, ByteArray.size_append, ByteArray.size_append, ByteArray.size_append]
  omega
theorem tk3 {B b : Nat} {w : World} {last : ByteArray} {bs : List Value} (h : BW 182 w B b (.string last) bs) (t u v : ByteArray) (k : Nat) (hk : t.size + 1 + (u.size + 1 + (v.size + 1)) ≤ k) (hlen : bs.length + k ≤ 100000000) :
    Calls Tryz.prog 112 #[.pointer (some ⟨b, 0, none⟩), .slice (some ⟨w.heap.size, 0, none⟩) 3 3] (w.alloc (.cells #[.string t, .string u, .string v] 9)) fun e w' => e = .returned (.tuple #[]) ∧ ∃ bs', Hid (bs' = bs ++ Lib.strCells (sep last t ++ t ++ (sep t u ++ u ++ (sep u v ++ v)))) ∧ bs'.length ≤ bs.length + k ∧ BW 182 w' B b (.string v) bs' ∧ KB B b w w' := by
  refine (wtok3 h t u v (by omega)).mono ?_
  rintro e w' ⟨rfl, hW, hK⟩
  refine ⟨rfl, _, rfl, ?_, hW, hK⟩
  have := sep_size last t
  have := sep_size t u
  have := sep_size u v
  rw [len_app, ByteArray.size_append, ByteArray.size_append, ByteArray.size_append, ByteArray.size_append, ByteArray.size_append]
  omega
theorem xg {x : X} (ih : SWX x) {v : Value} {w : World} {P : Nat → Prop} {B b : Nat} {last : ByteArray} {bs : List Value} (hx : PX w P x v) (hW : BW 182 w B b (.string last) bs) (hlen : bs.length + tw x + 1 ≤ 10000000) :
    Calls Tryz.prog 76 #[.pointer (some ⟨b, 0, none⟩), v] w fun e w' => e = .returned (.tuple #[]) ∧ ∃ last' bs', opn last' = false ∧ Hid (bs' = bs ++ Lib.strCells (pre last ++ txt x)) ∧ bs'.length ≤ bs.length + tw x + 1 ∧ BW 182 w' B b (.string last') bs' ∧ KB B b w w' := by
  refine (ih v w P B b last bs hx hW hlen).mono ?_
  rintro e w' ⟨rfl, l, ho, hW, hK⟩
  refine ⟨rfl, l, _, ho, rfl, ?_, hW, hK⟩
  have := hx.sz last
  rw [len_app]
  omega
end Go.Proofs.YtleenphlgbklmabGreatDoor

namespace Go.Proofs.YtleenphlgbklmabGreatDoor
open Go.RowKit

theorem XKeep.drew (w : World) : XKeep w w.drew := fun _ _ _ _ _ h => h
theorem PX.drew {w : World} {P : Nat → Prop} {x : X} {v : Value} (h : PX w P x v) : PX w.drew P x v := h.keepT (XKeep.drew w)
theorem sep_cl {l t : ByteArray} (h : cls t = true) : sep l t = { data := #[] } := by unfold sep; rw [h]; rfl
theorem pre_op {t : ByteArray} (h : opn t = true) : pre t = { data := #[] } := by unfold pre; rw [h]; rfl
set_option maxRecDepth 20000 in
set_option maxHeartbeats 1000000 in
theorem wx_name (n : ByteArray) (loc : Nat) : SWX (.mk { data := #[110, 97, 109, 101] } [n] [] loc) := by
  intro v w P B b last bs h hW hlen
  have htw : tw (.mk { data := #[110, 97, 109, 101] } [n] [] loc) = n.size + 16 + 16 := by simp [tw, tws]
  rw [htw] at hlen
  rw [txt_name]
  cases h with
  | name n loc xb hWd hP hb =>
  have t0 := Tryz.xNaNa (.pointer (some ⟨xb, 0, none⟩)) w
  have c1 : w.cell? ⟨xb, 1, none⟩ = some (.string n) := by simp [World.cell?, hb]
  have H1 : Hid _ := wtok1 hW n (by omega)
  clear hb htw hW
  go_enter Tryz.func76, Tryz.ntmps76
  go_wp2_with fail
  refine Calls.mono H1.out ?_
  rintro e w1 ⟨rfl, hW1, hk1⟩
  rw [sep_wd hWd.c] at hW1
  go_wp2
  go_end0
  exact ⟨rfl, n, hWd.o, hW1, hk1⟩
set_option maxRecDepth 20000 in
set_option maxHeartbeats 1000000 in
theorem wx_num (n : ByteArray) (loc : Nat) : SWX (.mk { data := #[110, 117, 109] } [n] [] loc) := by
  intro v w P B b last bs h hW hlen
  have htw : tw (.mk { data := #[110, 117, 109] } [n] [] loc) = n.size + 16 + 16 := by simp [tw, tws]
  rw [htw] at hlen
  rw [txt_num]
  cases h with
  | num n loc xb hWd hP hb =>
  have t0 := Tryz.xNuNa (.pointer (some ⟨xb, 0, none⟩)) w
  have t1 := Tryz.xNuNu (.pointer (some ⟨xb, 0, none⟩)) w
  have c1 : w.cell? ⟨xb, 1, none⟩ = some (.string n) := by simp [World.cell?, hb]
  have H1 : Hid _ := wtok1 hW n (by omega)
  clear hb htw hW
  go_enter Tryz.func76, Tryz.ntmps76
  go_wp2_with fail
  refine Calls.mono H1.out ?_
  rintro e w1 ⟨rfl, hW1, hk1⟩
  rw [sep_wd hWd.c] at hW1
  go_wp2
  go_end0
  exact ⟨rfl, n, hWd.o, hW1, hk1⟩
set_option maxRecDepth 20000 in
set_option maxHeartbeats 1000000 in
theorem wx_fn (n : ByteArray) (x : X) (loc : Nat) (ih : SWX x) : SWX (.mk { data := #[102, 117, 110] } [n] [x] loc) := by
  intro v w P B b last bs h hW hlen
  have htw : tw (.mk { data := #[102, 117, 110] } [n] [x] loc) = n.size + 16 + (tw x + 16) + 16 := by simp [tw, tws]
  rw [htw] at hlen
  rw [txt_fn]
  clear htw
  cases h with
  | fn n x loc xb p hWd hP hb hx =>
  obtain ⟨T, u, rfl⟩ := hx.iface
  have t0 := Tryz.xFuNa (.pointer (some ⟨xb, 0, none⟩)) w
  have t1 := Tryz.xFuNu (.pointer (some ⟨xb, 0, none⟩)) w
  have t2 := Tryz.xFuFu (.pointer (some ⟨xb, 0, none⟩)) w
  have c1 : w.cell? ⟨xb, 1, none⟩ = some (.string n) := by simp [World.cell?, hb]
  go_enter Tryz.func76, Tryz.ntmps76
  go_wp2_with fail
  refine Calls.mono (tk3 hW { data := #[102, 117, 110] } n { data := #[45, 62] } (n.size + 10) (by have a0 : ({ data := #[102, 117, 110] } : ByteArray).size = 3 := rfl; have a1 : ({ data := #[45, 62] } : ByteArray).size = 2 := rfl; omega) (by omega)) ?_
  rintro e w1 ⟨rfl, bs1, E1, n1, hW1, hk1⟩
  have hK1 := hk1
  have hb1 := (hK1.xk hW) _ _ _ _ (by decide) hb
  have c1x2 : w1.cell? ⟨xb, 2, none⟩ = some (.iface T u) := by simp [World.cell?, hb1]
  have p2 := hx.keepT (hK1.xk hW)
  go_wp2_with fail
  refine Calls.mono (xg ih p2 hW1 (by omega)) ?_
  rintro e w2 ⟨rfl, l2, bs2, o2, E2, n2, hW2, hk2⟩
  clear p2
  have hK2 := hK1.trans hk2
  go_wp2
  go_end0
  refine ⟨rfl, _, o2, ?_, hK2⟩
  have EE : bs2 = bs ++ Lib.strCells (pre last ++ ({ data := #[102, 117, 110, 32] } ++ n ++ { data := #[32, 45, 62, 32] } ++ txt x)) := by
    rw [E2.out, E1.out, sC_join, sep_wd (t := { data := #[102, 117, 110] }) rfl, sep_wd hWd.c, sep_wd (t := { data := #[45, 62] }) rfl, pre_wd (t := { data := #[102, 117, 110] }) rfl, pre_wd hWd.o, pre_wd (t := { data := #[45, 62] }) rfl]
    congr 2
    apply bytes_ext
    simp only [bytes_app, List.append_assoc, List.cons_append, List.nil_append]
  rw [← EE]
  exact hW2
set_option maxRecDepth 20000 in
set_option maxHeartbeats 1000000 in
theorem wx_let (n : ByteArray) (x y : X) (loc : Nat) (ihx : SWX x) (ihy : SWX y) : SWX (.mk { data := #[108, 101, 116] } [n] [x, y] loc) := by
  intro v w P B b last bs h hW hlen
  have htw : tw (.mk { data := #[108, 101, 116] } [n] [x, y] loc) = n.size + 16 + (tw x + 16 + (tw y + 16)) + 16 := by simp [tw, tws]
  rw [htw] at hlen
  rw [txt_let]
  clear htw
  cases h with
  | lt n x y loc xb p q hWd hP hb hx hy =>
  obtain ⟨T, u, rfl⟩ := hx.iface
  obtain ⟨T2, u2, rfl⟩ := hy.iface
  have t0 := Tryz.xLeNa (.pointer (some ⟨xb, 0, none⟩)) w
  have t1 := Tryz.xLeNu (.pointer (some ⟨xb, 0, none⟩)) w
  have t2 := Tryz.xLeFu (.pointer (some ⟨xb, 0, none⟩)) w
  have t3 := Tryz.xLeIf (.pointer (some ⟨xb, 0, none⟩)) w
  have t4 := Tryz.xLeLe (.pointer (some ⟨xb, 0, none⟩)) w
  have c1 : w.cell? ⟨xb, 1, none⟩ = some (.string n) := by simp [World.cell?, hb]
  go_enter Tryz.func76, Tryz.ntmps76
  go_wp2_with fail
  refine Calls.mono (tk3 hW { data := #[108, 101, 116] } n { data := #[61] } (n.size + 9) (by have a0 : ({ data := #[108, 101, 116] } : ByteArray).size = 3 := rfl; have a1 : ({ data := #[61] } : ByteArray).size = 1 := rfl; omega) (by omega)) ?_
  rintro e w1 ⟨rfl, bs1, E1, n1, hW1, hk1⟩
  have hK1 := hk1
  have hb1 := (hK1.xk hW) _ _ _ _ (by decide) hb
  have c1x2 : w1.cell? ⟨xb, 2, none⟩ = some (.iface T u) := by simp [World.cell?, hb1]
  have c1x3 : w1.cell? ⟨xb, 3, none⟩ = some (.iface T2 u2) := by simp [World.cell?, hb1]
  have p2 := hx.keepT (hK1.xk hW)
  go_wp2_with fail
  refine Calls.mono (xg ihx p2 hW1 (by omega)) ?_
  rintro e w2 ⟨rfl, l2, bs2, o2, E2, n2, hW2, hk2⟩
  clear p2
  have hK2 := hK1.trans hk2
  have hb2 := (hK2.xk hW) _ _ _ _ (by decide) hb
  have c2x2 : w2.cell? ⟨xb, 2, none⟩ = some (.iface T u) := by simp [World.cell?, hb2]
  have c2x3 : w2.cell? ⟨xb, 3, none⟩ = some (.iface T2 u2) := by simp [World.cell?, hb2]
  go_wp2_with fail
  refine Calls.mono (tk1 hW2 { data := #[105, 110] } 3 (by have a0 : ({ data := #[105, 110] } : ByteArray).size = 2 := rfl; omega) (by omega)) ?_
  rintro e w3 ⟨rfl, bs3, E3, n3, hW3, hk3⟩
  have hK3 := hK2.trans hk3
  have hb3 := (hK3.xk hW) _ _ _ _ (by decide) hb
  have c3x2 : w3.cell? ⟨xb, 2, none⟩ = some (.iface T u) := by simp [World.cell?, hb3]
  have c3x3 : w3.cell? ⟨xb, 3, none⟩ = some (.iface T2 u2) := by simp [World.cell?, hb3]
  have p4 := hy.keepT (hK3.xk hW)
  go_wp2_with fail
  refine Calls.mono (xg ihy p4 hW3 (by omega)) ?_
  rintro e w4 ⟨rfl, l4, bs4, o4, E4, n4, hW4, hk4⟩
  clear p4
  have hK4 := hK3.trans hk4
  go_wp2
  go_end0
  refine ⟨rfl, _, o4, ?_, hK4⟩
  have EE : bs4 = bs ++ Lib.strCells (pre last ++ ({ data := #[108, 101, 116, 32] } ++ (n ++ { data := #[32, 61, 32] } ++ txt x) ++ { data := #[32, 105, 110, 32] } ++ txt y)) := by
    rw [E4.out, E3.out, E2.out, E1.out, sC_join, sC_join, sC_join, sep_wd (t := { data := #[108, 101, 116] }) rfl, sep_wd hWd.c, sep_wd (t := { data := #[61] }) rfl, sep_wd (t := { data := #[105, 110] }) rfl, pre_wd (t := { data := #[108, 101, 116] }) rfl, pre_wd hWd.o, pre_wd (t := { data := #[61] }) rfl, pre_wd (t := { data := #[105, 110] }) rfl, pre_wd o2]
    congr 2
    apply bytes_ext
    simp only [bytes_app, List.append_assoc, List.cons_append, List.nil_append]
  rw [← EE]
  exact hW4
set_option maxRecDepth 20000 in
set_option maxHeartbeats 1000000 in
theorem wx_pair (x y : X) (loc : Nat) (ihx : SWX x) (ihy : SWX y) : SWX (.mk { data := #[112, 97, 105, 114] } [] [x, y] loc) := by
  intro v w P B b last bs h hW hlen
  have htw : tw (.mk { data := #[112, 97, 105, 114] } [] [x, y] loc) = (tw x + 16 + (tw y + 16)) + 16 := by simp [tw, tws]
  rw [htw] at hlen
  rw [txt_pair]
  clear htw
  cases h with
  | pair x y loc xb p q hP hb hx hy =>
  obtain ⟨T, u, rfl⟩ := hx.iface
  obtain ⟨T2, u2, rfl⟩ := hy.iface
  have t0 := Tryz.xPaNa (.pointer (some ⟨xb, 0, none⟩)) w
  have t1 := Tryz.xPaNu (.pointer (some ⟨xb, 0, none⟩)) w
  have t2 := Tryz.xPaFu (.pointer (some ⟨xb, 0, none⟩)) w
  have t3 := Tryz.xPaIf (.pointer (some ⟨xb, 0, none⟩)) w
  have t4 := Tryz.xPaLe (.pointer (some ⟨xb, 0, none⟩)) w
  have t5 := Tryz.xPaRe (.pointer (some ⟨xb, 0, none⟩)) w
  have t6 := Tryz.xPaAp (.pointer (some ⟨xb, 0, none⟩)) w
  have t7 := Tryz.xPaPa (.pointer (some ⟨xb, 0, none⟩)) w
  go_enter Tryz.func76, Tryz.ntmps76
  go_wp2_with fail
  refine Calls.mono (tk1 hW { data := #[40] } 2 (by have a0 : ({ data := #[40] } : ByteArray).size = 1 := rfl; omega) (by omega)) ?_
  rintro e w1 ⟨rfl, bs1, E1, n1, hW1, hk1⟩
  have hK1 := hk1
  have hb1 := (hK1.xk hW) _ _ _ _ (by decide) hb
  have c1x1 : w1.cell? ⟨xb, 1, none⟩ = some (.iface T u) := by simp [World.cell?, hb1]
  have c1x2 : w1.cell? ⟨xb, 2, none⟩ = some (.iface T2 u2) := by simp [World.cell?, hb1]
  have p2 := hx.keepT (hK1.xk hW)
  go_wp2_with fail
  refine Calls.mono (xg ihx p2 hW1 (by omega)) ?_
  rintro e w2 ⟨rfl, l2, bs2, o2, E2, n2, hW2, hk2⟩
  clear p2
  have hK2 := hK1.trans hk2
  have hb2 := (hK2.xk hW) _ _ _ _ (by decide) hb
  have c2x1 : w2.cell? ⟨xb, 1, none⟩ = some (.iface T u) := by simp [World.cell?, hb2]
  have c2x2 : w2.cell? ⟨xb, 2, none⟩ = some (.iface T2 u2) := by simp [World.cell?, hb2]
  go_wp2_with fail
  refine Calls.mono (tk1 hW2 { data := #[44] } 2 (by have a0 : ({ data := #[44] } : ByteArray).size = 1 := rfl; omega) (by omega)) ?_
  rintro e w3 ⟨rfl, bs3, E3, n3, hW3, hk3⟩
  have hK3 := hK2.trans hk3
  have hb3 := (hK3.xk hW) _ _ _ _ (by decide) hb
  have c3x1 : w3.cell? ⟨xb, 1, none⟩ = some (.iface T u) := by simp [World.cell?, hb3]
  have c3x2 : w3.cell? ⟨xb, 2, none⟩ = some (.iface T2 u2) := by simp [World.cell?, hb3]
  have p4 := hy.keepT (hK3.xk hW)
  go_wp2_with fail
  refine Calls.mono (xg ihy p4 hW3 (by omega)) ?_
  rintro e w4 ⟨rfl, l4, bs4, o4, E4, n4, hW4, hk4⟩
  clear p4
  have hK4 := hK3.trans hk4
  have hb4 := (hK4.xk hW) _ _ _ _ (by decide) hb
  have c4x1 : w4.cell? ⟨xb, 1, none⟩ = some (.iface T u) := by simp [World.cell?, hb4]
  have c4x2 : w4.cell? ⟨xb, 2, none⟩ = some (.iface T2 u2) := by simp [World.cell?, hb4]
  go_wp2_with fail
  refine Calls.mono (tk1 hW4 { data := #[41] } 2 (by have a0 : ({ data := #[41] } : ByteArray).size = 1 := rfl; omega) (by omega)) ?_
  rintro e w5 ⟨rfl, bs5, E5, n5, hW5, hk5⟩
  have hK5 := hK4.trans hk5
  go_wp2
  go_end0
  refine ⟨rfl, _, (rfl : opn { data := #[41] } = false), ?_, hK5⟩
  have EE : bs5 = bs ++ Lib.strCells (pre last ++ ({ data := #[40] } ++ txt x ++ { data := #[44, 32] } ++ txt y ++ { data := #[41] })) := by
    rw [E5.out, E4.out, E3.out, E2.out, E1.out, sC_join, sC_join, sC_join, sC_join, sep_wd (t := { data := #[40] }) rfl, sep_cl (t := { data := #[44] }) rfl, sep_cl (t := { data := #[41] }) rfl, pre_op (t := { data := #[40] }) rfl, pre_wd (t := { data := #[44] }) rfl]
    congr 2
    apply bytes_ext
    simp only [bytes_app, List.append_assoc, List.cons_append, List.nil_append]
  rw [← EE]
  exact hW5
set_option maxRecDepth 20000 in
set_option maxHeartbeats 1000000 in
theorem wif (x y z : X) (ihx : SWX x) (ihy : SWX y) (ihz : SWX z) (w : World) (P : Nat → Prop) (B b xb : Nat) (last : ByteArray) (bs : List Value) (d p q r : Value) (hb : w.heap[xb]? = some (.cells #[d, p, q, r] 246 (0, 0))) (hx : PX w P x p) (hy : PX w P y q) (hz : PX w P z r) (hW : BW 182 w B b (.string last) bs) (hlen : bs.length + ((tw x + 16 + (tw y + 16 + (tw z + 16))) + 16) + 1 ≤ 10000000) :
    Calls Tryz.prog 113 #[.pointer (some ⟨b, 0, none⟩), .pointer (some ⟨xb, 0, none⟩)] w fun e w' => e = .returned (.tuple #[]) ∧ ∃ last', opn last' = false ∧ BW 182 w' B b (.string last') (bs ++ Lib.strCells (pre last ++ ({ data := #[105, 102, 32] } ++ txt x ++ { data := #[32, 116, 104, 101, 110, 32] } ++ txt y ++ { data := #[32, 101, 108, 115, 101, 32] } ++ txt z))) ∧ KB B b w w' := by
  obtain ⟨T, u, rfl⟩ := hx.iface
  obtain ⟨T2, u2, rfl⟩ := hy.iface
  obtain ⟨T3, u3, rfl⟩ := hz.iface
  go_enter Tryz.func113, Tryz.ntmps113
  go_wp2_with fail
  refine Calls.mono (tk1 hW { data := #[105, 102] } 3 (by have a0 : ({ data := #[105, 102] } : ByteArray).size = 2 := rfl; omega) (by omega)) ?_
  rintro e w1 ⟨rfl, bs1, E1, n1, hW1, hk1⟩
  have hK1 := hk1
  have hb1 := (hK1.xk hW) _ _ _ _ (by decide) hb
  have c1x1 : w1.cell? ⟨xb, 1, none⟩ = some (.iface T u) := by simp [World.cell?, hb1]
  have c1x2 : w1.cell? ⟨xb, 2, none⟩ = some (.iface T2 u2) := by simp [World.cell?, hb1]
  have c1x3 : w1.cell? ⟨xb, 3, none⟩ = some (.iface T3 u3) := by simp [World.cell?, hb1]
  have p2 := hx.keepT (hK1.xk hW)
  go_wp2_with fail
  refine Calls.mono (xg ihx p2 hW1 (by omega)) ?_
  rintro e w2 ⟨rfl, l2, bs2, o2, E2, n2, hW2, hk2⟩
  clear p2
  have hK2 := hK1.trans hk2
  have hb2 := (hK2.xk hW) _ _ _ _ (by decide) hb
  have c2x1 : w2.cell? ⟨xb, 1, none⟩ = some (.iface T u) := by simp [World.cell?, hb2]
  have c2x2 : w2.cell? ⟨xb, 2, none⟩ = some (.iface T2 u2) := by simp [World.cell?, hb2]
  have c2x3 : w2.cell? ⟨xb, 3, none⟩ = some (.iface T3 u3) := by simp [World.cell?, hb2]
  go_wp2_with fail
  refine Calls.mono (tk1 hW2 { data := #[116, 104, 101, 110] } 5 (by have a0 : ({ data := #[116, 104, 101, 110] } : ByteArray).size = 4 := rfl; omega) (by omega)) ?_
  rintro e w3 ⟨rfl, bs3, E3, n3, hW3, hk3⟩
  have hK3 := hK2.trans hk3
  have hb3 := (hK3.xk hW) _ _ _ _ (by decide) hb
  have c3x1 : w3.cell? ⟨xb, 1, none⟩ = some (.iface T u) := by simp [World.cell?, hb3]
  have c3x2 : w3.cell? ⟨xb, 2, none⟩ = some (.iface T2 u2) := by simp [World.cell?, hb3]
  have c3x3 : w3.cell? ⟨xb, 3, none⟩ = some (.iface T3 u3) := by simp [World.cell?, hb3]
  have p4 := hy.keepT (hK3.xk hW)
  go_wp2_with fail
  refine Calls.mono (xg ihy p4 hW3 (by omega)) ?_
  rintro e w4 ⟨rfl, l4, bs4, o4, E4, n4, hW4, hk4⟩
  clear p4
  have hK4 := hK3.trans hk4
  have hb4 := (hK4.xk hW) _ _ _ _ (by decide) hb
  have c4x1 : w4.cell? ⟨xb, 1, none⟩ = some (.iface T u) := by simp [World.cell?, hb4]
  have c4x2 : w4.cell? ⟨xb, 2, none⟩ = some (.iface T2 u2) := by simp [World.cell?, hb4]
  have c4x3 : w4.cell? ⟨xb, 3, none⟩ = some (.iface T3 u3) := by simp [World.cell?, hb4]
  go_wp2_with fail
  refine Calls.mono (tk1 hW4 { data := #[101, 108, 115, 101] } 5 (by have a0 : ({ data := #[101, 108, 115, 101] } : ByteArray).size = 4 := rfl; omega) (by omega)) ?_
  rintro e w5 ⟨rfl, bs5, E5, n5, hW5, hk5⟩
  have hK5 := hK4.trans hk5
  have hb5 := (hK5.xk hW) _ _ _ _ (by decide) hb
  have c5x1 : w5.cell? ⟨xb, 1, none⟩ = some (.iface T u) := by simp [World.cell?, hb5]
  have c5x2 : w5.cell? ⟨xb, 2, none⟩ = some (.iface T2 u2) := by simp [World.cell?, hb5]
  have c5x3 : w5.cell? ⟨xb, 3, none⟩ = some (.iface T3 u3) := by simp [World.cell?, hb5]
  have p6 := hz.keepT (hK5.xk hW)
  go_wp2_with fail
  refine Calls.mono (xg ihz p6 hW5 (by omega)) ?_
  rintro e w6 ⟨rfl, l6, bs6, o6, E6, n6, hW6, hk6⟩
  clear p6
  have hK6 := hK5.trans hk6
  go_wp2
  go_end0
  refine ⟨rfl, _, o6, ?_, hK6⟩
  have EE : bs6 = bs ++ Lib.strCells (pre last ++ ({ data := #[105, 102, 32] } ++ txt x ++ { data := #[32, 116, 104, 101, 110, 32] } ++ txt y ++ { data := #[32, 101, 108, 115, 101, 32] } ++ txt z)) := by
    rw [E6.out, E5.out, E4.out, E3.out, E2.out, E1.out, sC_join, sC_join, sC_join, sC_join, sC_join, sep_wd (t := { data := #[105, 102] }) rfl, sep_wd (t := { data := #[116, 104, 101, 110] }) rfl, sep_wd (t := { data := #[101, 108, 115, 101] }) rfl, pre_wd (t := { data := #[105, 102] }) rfl, pre_wd (t := { data := #[116, 104, 101, 110] }) rfl, pre_wd (t := { data := #[101, 108, 115, 101] }) rfl, pre_wd o2, pre_wd o4]
    congr 2
    apply bytes_ext
    simp only [bytes_app, List.append_assoc, List.cons_append, List.nil_append]
  rw [← EE]
  exact hW6
set_option maxRecDepth 20000 in
set_option maxHeartbeats 1000000 in
theorem wx_ite (x y z : X) (loc : Nat) (ihx : SWX x) (ihy : SWX y) (ihz : SWX z) : SWX (.mk { data := #[105, 102] } [] [x, y, z] loc) := by
  intro v w P B b last bs h hW hlen
  have htw : tw (.mk { data := #[105, 102] } [] [x, y, z] loc) = (tw x + 16 + (tw y + 16 + (tw z + 16))) + 16 := by simp [tw, tws]
  rw [htw] at hlen
  rw [txt_ite]
  clear htw
  cases h with
  | ite x y z loc xb p q r hP hb hx hy hz =>
  have t0 := Tryz.xIfNa (.pointer (some ⟨xb, 0, none⟩)) w
  have t1 := Tryz.xIfNu (.pointer (some ⟨xb, 0, none⟩)) w
  have t2 := Tryz.xIfFu (.pointer (some ⟨xb, 0, none⟩)) w
  have t3 := Tryz.xIfIf (.pointer (some ⟨xb, 0, none⟩)) w
  have H1 : Hid _ := wif x y z ihx ihy ihz w P B b xb last bs _ p q r hb hx hy hz hW hlen
  clear hb hx hy hz hW
  go_enter Tryz.func76, Tryz.ntmps76
  go_wp2_with fail
  refine Calls.mono H1.out ?_
  rintro e w1 ⟨rfl, l, o, hW1, hk1⟩
  clear H1
  go_wp2
  go_end0
  exact ⟨rfl, l, o, hW1, hk1⟩
set_option maxRecDepth 20000 in
set_option maxHeartbeats 1000000 in
theorem wwithin {x : X} (c : Bool) (ih : SWX x) {v : Value} {w : World} {P : Nat → Prop} {B b : Nat} {last : ByteArray} {bs : List Value} (hx : PX w P x v) (hW : BW 182 w B b (.string last) bs) (hlen : bs.length + tw x + 6 ≤ 10000000) :
    Calls Tryz.prog 115 #[.pointer (some ⟨b, 0, none⟩), .bool c, v] w fun e w' => e = .returned (.tuple #[]) ∧ ∃ last' bs', opn last' = false ∧ Hid (bs' = bs ++ Lib.strCells (pre last ++ brk c (txt x))) ∧ bs'.length ≤ bs.length + tw x + 6 ∧ BW 182 w' B b (.string last') bs' ∧ KB B b w w' := by
  obtain ⟨T, u, rfl⟩ := hx.iface
  cases c
  · have H1 : Hid _ := xg ih hx hW (by omega)
    clear hx hW
    go_enter Tryz.func115, Tryz.ntmps115
    go_wp2_with fail
    refine Calls.mono H1.out ?_
    rintro e w1 ⟨rfl, l, bs1, o, E, n1, hW1, hk1⟩
    clear H1
    go_wp2
    exact bodyPost_ret (results_none Tryz.results115 _ _ _) rfl ⟨rfl, l, bs1, o, E, by omega, hW1, hk1⟩
  · go_enter Tryz.func115, Tryz.ntmps115
    go_wp2_with fail
    refine Calls.mono (tk1 hW { data := #[40] } 2 (by have a0 : ({ data := #[40] } : ByteArray).size = 1 := rfl; omega) (by omega)) ?_
    rintro e w1 ⟨rfl, bs1, E1, n1, hW1, hk1⟩
    have hK1 := hk1
    have p2 := hx.keepT (hK1.xk hW)
    go_wp2_with fail
    refine Calls.mono (xg ih p2 hW1 (by omega)) ?_
    rintro e w2 ⟨rfl, l2, bs2, o2, E2, n2, hW2, hk2⟩
    clear p2
    have hK2 := hK1.trans hk2
    go_wp2_with fail
    refine Calls.mono (tk1 hW2 { data := #[41] } 2 (by have a0 : ({ data := #[41] } : ByteArray).size = 1 := rfl; omega) (by omega)) ?_
    rintro e w3 ⟨rfl, bs3, E3, n3, hW3, hk3⟩
    have hK3 := hK2.trans hk3
    go_wp2
    go_end0
    refine ⟨rfl, _, bs3, (rfl : opn { data := #[41] } = false), ?_, by omega, hW3, hK3⟩
    show bs3 = bs ++ Lib.strCells (pre last ++ brk true (txt x))
    rw [E3.out, E2.out, E1.out, sC_join, sC_join, sep_wd (t := { data := #[40] }) rfl, sep_cl (t := { data := #[41] }) rfl, pre_op (t := { data := #[40] }) rfl, brk, if_pos rfl]
    congr 2
    apply bytes_ext
    simp only [bytes_app, List.append_assoc, List.cons_append, List.nil_append]
set_option maxRecDepth 20000 in
set_option maxHeartbeats 1000000 in
theorem wbf {x : X} {v : Value} {w : World} {P : Nat → Prop} (hx : PX w P x v) : Calls Tryz.prog 116 #[v] w fun e w' => e = .returned (.bool (needsF x.op)) ∧ w' = w := by
  cases hx with
  | name n loc xb hWd hP hb =>
    have tFu := Tryz.xNaFu (.pointer (some ⟨xb, 0, none⟩)) w
    have tIf := Tryz.xNaIf (.pointer (some ⟨xb, 0, none⟩)) w
    have tLe := Tryz.xNaLe (.pointer (some ⟨xb, 0, none⟩)) w
    have tRe := Tryz.xNaRe (.pointer (some ⟨xb, 0, none⟩)) w
    clear hb
    go_enter Tryz.func116, Tryz.ntmps116
    go_wp2
    go_ret
    exact ⟨rfl, rfl⟩
  | num n loc xb hWd hP hb =>
    have tFu := Tryz.xNuFu (.pointer (some ⟨xb, 0, none⟩)) w
    have tIf := Tryz.xNuIf (.pointer (some ⟨xb, 0, none⟩)) w
    have tLe := Tryz.xNuLe (.pointer (some ⟨xb, 0, none⟩)) w
    have tRe := Tryz.xNuRe (.pointer (some ⟨xb, 0, none⟩)) w
    clear hb
    go_enter Tryz.func116, Tryz.ntmps116
    go_wp2
    go_ret
    exact ⟨rfl, rfl⟩
  | fn n x loc xb p hWd hP hb hx =>
    have tFu := Tryz.xFuFu (.pointer (some ⟨xb, 0, none⟩)) w
    have tIf := Tryz.xFuIf (.pointer (some ⟨xb, 0, none⟩)) w
    have tLe := Tryz.xFuLe (.pointer (some ⟨xb, 0, none⟩)) w
    have tRe := Tryz.xFuRe (.pointer (some ⟨xb, 0, none⟩)) w
    clear hb
    go_enter Tryz.func116, Tryz.ntmps116
    go_wp2
    go_ret
    exact ⟨rfl, rfl⟩
  | ite x y z loc xb p q r hP hb hx hy hz =>
    have tFu := Tryz.xIfFu (.pointer (some ⟨xb, 0, none⟩)) w
    have tIf := Tryz.xIfIf (.pointer (some ⟨xb, 0, none⟩)) w
    have tLe := Tryz.xIfLe (.pointer (some ⟨xb, 0, none⟩)) w
    have tRe := Tryz.xIfRe (.pointer (some ⟨xb, 0, none⟩)) w
    clear hb
    go_enter Tryz.func116, Tryz.ntmps116
    go_wp2
    go_ret
    exact ⟨rfl, rfl⟩
  | lt n x y loc xb p q hWd hP hb hx hy =>
    have tFu := Tryz.xLeFu (.pointer (some ⟨xb, 0, none⟩)) w
    have tIf := Tryz.xLeIf (.pointer (some ⟨xb, 0, none⟩)) w
    have tLe := Tryz.xLeLe (.pointer (some ⟨xb, 0, none⟩)) w
    have tRe := Tryz.xLeRe (.pointer (some ⟨xb, 0, none⟩)) w
    clear hb
    go_enter Tryz.func116, Tryz.ntmps116
    go_wp2
    go_ret
    exact ⟨rfl, rfl⟩
  | rc names kids y loc xb nv vv q ps hN hW hP hb hn hv hnP hvP hl hl2 hk hy =>
    have tFu := Tryz.xReFu (.pointer (some ⟨xb, 0, none⟩)) w
    have tIf := Tryz.xReIf (.pointer (some ⟨xb, 0, none⟩)) w
    have tLe := Tryz.xReLe (.pointer (some ⟨xb, 0, none⟩)) w
    have tRe := Tryz.xReRe (.pointer (some ⟨xb, 0, none⟩)) w
    clear hb
    go_enter Tryz.func116, Tryz.ntmps116
    go_wp2
    go_ret
    exact ⟨rfl, rfl⟩
  | app x y loc xb p q hP hb hx hy =>
    have tFu := Tryz.xApFu (.pointer (some ⟨xb, 0, none⟩)) w
    have tIf := Tryz.xApIf (.pointer (some ⟨xb, 0, none⟩)) w
    have tLe := Tryz.xApLe (.pointer (some ⟨xb, 0, none⟩)) w
    have tRe := Tryz.xApRe (.pointer (some ⟨xb, 0, none⟩)) w
    clear hb
    go_enter Tryz.func116, Tryz.ntmps116
    go_wp2
    go_ret
    exact ⟨rfl, rfl⟩
  | pair x y loc xb p q hP hb hx hy =>
    have tFu := Tryz.xPaFu (.pointer (some ⟨xb, 0, none⟩)) w
    have tIf := Tryz.xPaIf (.pointer (some ⟨xb, 0, none⟩)) w
    have tLe := Tryz.xPaLe (.pointer (some ⟨xb, 0, none⟩)) w
    have tRe := Tryz.xPaRe (.pointer (some ⟨xb, 0, none⟩)) w
    clear hb
    go_enter Tryz.func116, Tryz.ntmps116
    go_wp2
    go_ret
    exact ⟨rfl, rfl⟩
set_option maxRecDepth 20000 in
set_option maxHeartbeats 1000000 in
theorem wba {x : X} {v : Value} {w : World} {P : Nat → Prop} (hx : PX w P x v) : Calls Tryz.prog 117 #[v] w fun e w' => e = .returned (.bool (needsA x.op)) ∧ w' = w := by
  cases hx with
  | name n loc xb hWd hP hb =>
    have tNa := Tryz.xNaNa (.pointer (some ⟨xb, 0, none⟩)) w
    have tNu := Tryz.xNaNu (.pointer (some ⟨xb, 0, none⟩)) w
    have tPa := Tryz.xNaPa (.pointer (some ⟨xb, 0, none⟩)) w
    clear hb
    go_enter Tryz.func117, Tryz.ntmps117
    go_wp2
    go_ret
    exact ⟨rfl, rfl⟩
  | num n loc xb hWd hP hb =>
    have tNa := Tryz.xNuNa (.pointer (some ⟨xb, 0, none⟩)) w
    have tNu := Tryz.xNuNu (.pointer (some ⟨xb, 0, none⟩)) w
    have tPa := Tryz.xNuPa (.pointer (some ⟨xb, 0, none⟩)) w
    clear hb
    go_enter Tryz.func117, Tryz.ntmps117
    go_wp2
    go_ret
    exact ⟨rfl, rfl⟩
  | fn n x loc xb p hWd hP hb hx =>
    have tNa := Tryz.xFuNa (.pointer (some ⟨xb, 0, none⟩)) w
    have tNu := Tryz.xFuNu (.pointer (some ⟨xb, 0, none⟩)) w
    have tPa := Tryz.xFuPa (.pointer (some ⟨xb, 0, none⟩)) w
    clear hb
    go_enter Tryz.func117, Tryz.ntmps117
    go_wp2
    go_ret
    exact ⟨rfl, rfl⟩
  | ite x y z loc xb p q r hP hb hx hy hz =>
    have tNa := Tryz.xIfNa (.pointer (some ⟨xb, 0, none⟩)) w
    have tNu := Tryz.xIfNu (.pointer (some ⟨xb, 0, none⟩)) w
    have tPa := Tryz.xIfPa (.pointer (some ⟨xb, 0, none⟩)) w
    clear hb
    go_enter Tryz.func117, Tryz.ntmps117
    go_wp2
    go_ret
    exact ⟨rfl, rfl⟩
  | lt n x y loc xb p q hWd hP hb hx hy =>
    have tNa := Tryz.xLeNa (.pointer (some ⟨xb, 0, none⟩)) w
    have tNu := Tryz.xLeNu (.pointer (some ⟨xb, 0, none⟩)) w
    have tPa := Tryz.xLePa (.pointer (some ⟨xb, 0, none⟩)) w
    clear hb
    go_enter Tryz.func117, Tryz.ntmps117
    go_wp2
    go_ret
    exact ⟨rfl, rfl⟩
  | rc names kids y loc xb nv vv q ps hN hW hP hb hn hv hnP hvP hl hl2 hk hy =>
    have tNa := Tryz.xReNa (.pointer (some ⟨xb, 0, none⟩)) w
    have tNu := Tryz.xReNu (.pointer (some ⟨xb, 0, none⟩)) w
    have tPa := Tryz.xRePa (.pointer (some ⟨xb, 0, none⟩)) w
    clear hb
    go_enter Tryz.func117, Tryz.ntmps117
    go_wp2
    go_ret
    exact ⟨rfl, rfl⟩
  | app x y loc xb p q hP hb hx hy =>
    have tNa := Tryz.xApNa (.pointer (some ⟨xb, 0, none⟩)) w
    have tNu := Tryz.xApNu (.pointer (some ⟨xb, 0, none⟩)) w
    have tPa := Tryz.xApPa (.pointer (some ⟨xb, 0, none⟩)) w
    clear hb
    go_enter Tryz.func117, Tryz.ntmps117
    go_wp2
    go_ret
    exact ⟨rfl, rfl⟩
  | pair x y loc xb p q hP hb hx hy =>
    have tNa := Tryz.xPaNa (.pointer (some ⟨xb, 0, none⟩)) w
    have tNu := Tryz.xPaNu (.pointer (some ⟨xb, 0, none⟩)) w
    have tPa := Tryz.xPaPa (.pointer (some ⟨xb, 0, none⟩)) w
    clear hb
    go_enter Tryz.func117, Tryz.ntmps117
    go_wp2
    go_ret
    exact ⟨rfl, rfl⟩
end Go.Proofs.YtleenphlgbklmabGreatDoor
