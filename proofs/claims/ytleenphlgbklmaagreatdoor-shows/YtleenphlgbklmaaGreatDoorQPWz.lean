import Derived.Test.YtleenphlgbklmaaGreatDoorQPWy
set_option linter.unusedVariables false
set_option linter.unusedSimpArgs false
namespace Go.Proofs.YtleenphlgbklmaaGreatDoor
open Go.RowKit

theorem XKeep.drew (w : World) : XKeep w w.drew := fun _ _ _ _ _ h => h
theorem PX.drew {w : World} {P : Nat → Prop} {x : X} {v : Value} (h : PX w P x v) : PX w.drew P x v := h.keepT (XKeep.drew w)
theorem sep_cl {l t : ByteArray} (h : cls t = true) : sep l t = { data := #[] } := by unfold sep; rw [h]; rfl
theorem pre_op {t : ByteArray} (h : opn t = true) : pre t = { data := #[] } := by unfold pre; rw [h]; rfl
set_option maxRecDepth 20000 in
set_option maxHeartbeats 1000000 in
theorem wx_name (n : ByteArray) (loc : Nat) : SWX (.mk { data := #[110, 97, 109, 101] } [n] [] loc) := by
  intro v w P B b last bs h hW hlen
  have htw : tw (.mk { data := #[110, 97, 109, 101] } [n] [] loc) = n.size + 16 + 16 := by simp [tw, tws]
  rw [htw] at hlen
  rw [txt_name]
  cases h with
  | name n loc xb hWd hP hb =>
  have t0 := Tryz.xNaNa (.pointer (some ⟨xb, 0, none⟩)) w
  have c1 : w.cell? ⟨xb, 1, none⟩ = some (.string n) := by simp [World.cell?, hb]
  have H1 : Hid _ := wtok1 hW n (by omega)
  clear hb htw hW
  go_enter Tryz.func100, Tryz.ntmps100
  go_wp2_with fail
  refine Calls.mono H1.out ?_
  rintro e w1 ⟨rfl, hW1, hk1⟩
  rw [sep_wd hWd.c] at hW1
  go_wp2
  go_end0
  exact ⟨rfl, n, hWd.o, hW1, hk1⟩
set_option maxRecDepth 20000 in
set_option maxHeartbeats 1000000 in
theorem wx_num (n : ByteArray) (loc : Nat) : SWX (.mk { data := #[110, 117, 109] } [n] [] loc) := by
  intro v w P B b last bs h hW hlen
  have htw : tw (.mk { data := #[110, 117, 109] } [n] [] loc) = n.size + 16 + 16 := by simp [tw, tws]
  rw [htw] at hlen
  rw [txt_num]
  cases h with
  | num n loc xb hWd hP hb =>
  have t0 := Tryz.xNuNa (.pointer (some ⟨xb, 0, none⟩)) w
  have t1 := Tryz.xNuNu (.pointer (some ⟨xb, 0, none⟩)) w
  have c1 : w.cell? ⟨xb, 1, none⟩ = some (.string n) := by simp [World.cell?, hb]
  have H1 : Hid _ := wtok1 hW n (by omega)
  clear hb htw hW
  go_enter Tryz.func100, Tryz.ntmps100
  go_wp2_with fail
  refine Calls.mono H1.out ?_
  rintro e w1 ⟨rfl, hW1, hk1⟩
  rw [sep_wd hWd.c] at hW1
  go_wp2
  go_end0
  exact ⟨rfl, n, hWd.o, hW1, hk1⟩
set_option maxRecDepth 20000 in
set_option maxHeartbeats 1000000 in
theorem wx_fn (n : ByteArray) (x : X) (loc : Nat) (ih : SWX x) : SWX (.mk { data := #[102, 117, 110] } [n] [x] loc) := by
  intro v w P B b last bs h hW hlen
  have htw : tw (.mk { data := #[102, 117, 110] } [n] [x] loc) = n.size + 16 + (tw x + 16) + 16 := by simp [tw, tws]
  rw [htw] at hlen
  rw [txt_fn]
  clear htw
  cases h with
  | fn n x loc xb p hWd hP hb hx =>
  obtain ⟨T, u, rfl⟩ := hx.iface
  have t0 := Tryz.xFuNa (.pointer (some ⟨xb, 0, none⟩)) w
  have t1 := Tryz.xFuNu (.pointer (some ⟨xb, 0, none⟩)) w
  have t2 := Tryz.xFuFu (.pointer (some ⟨xb, 0, none⟩)) w
  have c1 : w.cell? ⟨xb, 1, none⟩ = some (.string n) := by simp [World.cell?, hb]
  go_enter Tryz.func100, Tryz.ntmps100
  go_wp2_with fail
  refine Calls.mono (tk3 hW { data := #[102, 117, 110] } n { data := #[45, 62] } (n.size + 10) (by have a0 : ({ data := #[102, 117, 110] } : ByteArray).size = 3 := rfl; have a1 : ({ data := #[45, 62] } : ByteArray).size = 2 := rfl; omega) (by omega)) ?_
  rintro e w1 ⟨rfl, bs1, E1, n1, hW1, hk1⟩
  have hK1 := hk1
  have hb1 := (hK1.xk hW) _ _ _ _ (by decide) hb
  have c1x2 : w1.cell? ⟨xb, 2, none⟩ = some (.iface T u) := by simp [World.cell?, hb1]
  have p2 := hx.keepT (hK1.xk hW)
  go_wp2_with fail
  refine Calls.mono (xg ih p2 hW1 (by omega)) ?_
  rintro e w2 ⟨rfl, l2, bs2, o2, E2, n2, hW2, hk2⟩
  clear p2
  have hK2 := hK1.trans hk2
  go_wp2
  go_end0
  refine ⟨rfl, _, o2, ?_, hK2⟩
  have EE : bs2 = bs ++ Lib.strCells (pre last ++ ({ data := #[102, 117, 110, 32] } ++ n ++ { data := #[32, 45, 62, 32] } ++ txt x)) := by
    rw [E2.out, E1.out, sC_join, sep_wd (t := { data := #[102, 117, 110] }) rfl, sep_wd hWd.c, sep_wd (t := { data := #[45, 62] }) rfl, pre_wd (t := { data := #[102, 117, 110] }) rfl, pre_wd hWd.o, pre_wd (t := { data := #[45, 62] }) rfl]
    congr 2
    apply bytes_ext
    simp only [bytes_app, List.append_assoc, List.cons_append, List.nil_append]
  rw [← EE]
  exact hW2
set_option maxRecDepth 20000 in
set_option maxHeartbeats 1000000 in
theorem wx_let (n : ByteArray) (x y : X) (loc : Nat) (ihx : SWX x) (ihy : SWX y) : SWX (.mk { data := #[108, 101, 116] } [n] [x, y] loc) := by
  intro v w P B b last bs h hW hlen
  have htw : tw (.mk { data := #[108, 101, 116] } [n] [x, y] loc) = n.size + 16 + (tw x + 16 + (tw y + 16)) + 16 := by simp [tw, tws]
  rw [htw] at hlen
  rw [txt_let]
  clear htw
  cases h with
  | lt n x y loc xb p q hWd hP hb hx hy =>
  obtain ⟨T, u, rfl⟩ := hx.iface
  obtain ⟨T2, u2, rfl⟩ := hy.iface
  have t0 := Tryz.xLeNa (.pointer (some ⟨xb, 0, none⟩)) w
  have t1 := Tryz.xLeNu (.pointer (some ⟨xb, 0, none⟩)) w
  have t2 := Tryz.xLeFu (.pointer (some ⟨xb, 0, none⟩)) w
  have t3 := Tryz.xLeIf (.pointer (some ⟨xb, 0, none⟩)) w
  have t4 := Tryz.xLeLe (.pointer (some ⟨xb, 0, none⟩)) w
  have c1 : w.cell? ⟨xb, 1, none⟩ = some (.string n) := by simp [World.cell?, hb]
  go_enter Tryz.func100, Tryz.ntmps100
  go_wp2_with fail
  refine Calls.mono (tk3 hW { data := #[108, 101, 116] } n { data := #[61] } (n.size + 9) (by have a0 : ({ data := #[108, 101, 116] } : ByteArray).size = 3 := rfl; have a1 : ({ data := #[61] } : ByteArray).size = 1 := rfl; omega) (by omega)) ?_
  rintro e w1 ⟨rfl, bs1, E1, n1, hW1, hk1⟩
  have hK1 := hk1
  have hb1 := (hK1.xk hW) _ _ _ _ (by decide) hb
  have c1x2 : w1.cell? ⟨xb, 2, none⟩ = some (.iface T u) := by simp [World.cell?, hb1]
  have c1x3 : w1.cell? ⟨xb, 3, none⟩ = some (.iface T2 u2) := by simp [World.cell?, hb1]
  have p2 := hx.keepT (hK1.xk hW)
  go_wp2_with fail
  refine Calls.mono (xg ihx p2 hW1 (by omega)) ?_
  rintro e w2 ⟨rfl, l2, bs2, o2, E2, n2, hW2, hk2⟩
  clear p2
  have hK2 := hK1.trans hk2
  have hb2 := (hK2.xk hW) _ _ _ _ (by decide) hb
  have c2x2 : w2.cell? ⟨xb, 2, none⟩ = some (.iface T u) := by simp [World.cell?, hb2]
  have c2x3 : w2.cell? ⟨xb, 3, none⟩ = some (.iface T2 u2) := by simp [World.cell?, hb2]
  go_wp2_with fail
  refine Calls.mono (tk1 hW2 { data := #[105, 110] } 3 (by have a0 : ({ data := #[105, 110] } : ByteArray).size = 2 := rfl; omega) (by omega)) ?_
  rintro e w3 ⟨rfl, bs3, E3, n3, hW3, hk3⟩
  have hK3 := hK2.trans hk3
  have hb3 := (hK3.xk hW) _ _ _ _ (by decide) hb
  have c3x2 : w3.cell? ⟨xb, 2, none⟩ = some (.iface T u) := by simp [World.cell?, hb3]
  have c3x3 : w3.cell? ⟨xb, 3, none⟩ = some (.iface T2 u2) := by simp [World.cell?, hb3]
  have p4 := hy.keepT (hK3.xk hW)
  go_wp2_with fail
  refine Calls.mono (xg ihy p4 hW3 (by omega)) ?_
  rintro e w4 ⟨rfl, l4, bs4, o4, E4, n4, hW4, hk4⟩
  clear p4
  have hK4 := hK3.trans hk4
  go_wp2
  go_end0
  refine ⟨rfl, _, o4, ?_, hK4⟩
  have EE : bs4 = bs ++ Lib.strCells (pre last ++ ({ data := #[108, 101, 116, 32] } ++ (n ++ { data := #[32, 61, 32] } ++ txt x) ++ { data := #[32, 105, 110, 32] } ++ txt y)) := by
    rw [E4.out, E3.out, E2.out, E1.out, sC_join, sC_join, sC_join, sep_wd (t := { data := #[108, 101, 116] }) rfl, sep_wd hWd.c, sep_wd (t := { data := #[61] }) rfl, sep_wd (t := { data := #[105, 110] }) rfl, pre_wd (t := { data := #[108, 101, 116] }) rfl, pre_wd hWd.o, pre_wd (t := { data := #[61] }) rfl, pre_wd (t := { data := #[105, 110] }) rfl, pre_wd o2]
    congr 2
    apply bytes_ext
    simp only [bytes_app, List.append_assoc, List.cons_append, List.nil_append]
  rw [← EE]
  exact hW4
set_option maxRecDepth 20000 in
set_option maxHeartbeats 1000000 in
theorem wx_pair (x y : X) (loc : Nat) (ihx : SWX x) (ihy : SWX y) : SWX (.mk { data := #[112, 97, 105, 114] } [] [x, y] loc) := by
  intro v w P B b last bs h hW hlen
  have htw : tw (.mk { data := #[112, 97, 105, 114] } [] [x, y] loc) = (tw x + 16 + (tw y + 16)) + 16 := by simp [tw, tws]
  rw [htw] at hlen
  rw [txt_pair]
  clear htw
  cases h with
  | pair x y loc xb p q hP hb hx hy =>
  obtain ⟨T, u, rfl⟩ := hx.iface
  obtain ⟨T2, u2, rfl⟩ := hy.iface
  have t0 := Tryz.xPaNa (.pointer (some ⟨xb, 0, none⟩)) w
  have t1 := Tryz.xPaNu (.pointer (some ⟨xb, 0, none⟩)) w
  have t2 := Tryz.xPaFu (.pointer (some ⟨xb, 0, none⟩)) w
  have t3 := Tryz.xPaIf (.pointer (some ⟨xb, 0, none⟩)) w
  have t4 := Tryz.xPaLe (.pointer (some ⟨xb, 0, none⟩)) w
  have t5 := Tryz.xPaRe (.pointer (some ⟨xb, 0, none⟩)) w
  have t6 := Tryz.xPaAp (.pointer (some ⟨xb, 0, none⟩)) w
  have t7 := Tryz.xPaPa (.pointer (some ⟨xb, 0, none⟩)) w
  go_enter Tryz.func100, Tryz.ntmps100
  go_wp2_with fail
  refine Calls.mono (tk1 hW { data := #[40] } 2 (by have a0 : ({ data := #[40] } : ByteArray).size = 1 := rfl; omega) (by omega)) ?_
  rintro e w1 ⟨rfl, bs1, E1, n1, hW1, hk1⟩
  have hK1 := hk1
  have hb1 := (hK1.xk hW) _ _ _ _ (by decide) hb
  have c1x1 : w1.cell? ⟨xb, 1, none⟩ = some (.iface T u) := by simp [World.cell?, hb1]
  have c1x2 : w1.cell? ⟨xb, 2, none⟩ = some (.iface T2 u2) := by simp [World.cell?, hb1]
  have p2 := hx.keepT (hK1.xk hW)
  go_wp2_with fail
  refine Calls.mono (xg ihx p2 hW1 (by omega)) ?_
  rintro e w2 ⟨rfl, l2, bs2, o2, E2, n2, hW2, hk2⟩
  clear p2
  have hK2 := hK1.trans hk2
  have hb2 := (hK2.xk hW) _ _ _ _ (by decide) hb
  have c2x1 : w2.cell? ⟨xb, 1, none⟩ = some (.iface T u) := by simp [World.cell?, hb2]
  have c2x2 : w2.cell? ⟨xb, 2, none⟩ = some (.iface T2 u2) := by simp [World.cell?, hb2]
  go_wp2_with fail
  refine Calls.mono (tk1 hW2 { data := #[44] } 2 (by have a0 : ({ data := #[44] } : ByteArray).size = 1 := rfl; omega) (by omega)) ?_
  rintro e w3 ⟨rfl, bs3, E3, n3, hW3, hk3⟩
  have hK3 := hK2.trans hk3
  have hb3 := (hK3.xk hW) _ _ _ _ (by decide) hb
  have c3x1 : w3.cell? ⟨xb, 1, none⟩ = some (.iface T u) := by simp [World.cell?, hb3]
  have c3x2 : w3.cell? ⟨xb, 2, none⟩ = some (.iface T2 u2) := by simp [World.cell?, hb3]
  have p4 := hy.keepT (hK3.xk hW)
  go_wp2_with fail
  refine Calls.mono (xg ihy p4 hW3 (by omega)) ?_
  rintro e w4 ⟨rfl, l4, bs4, o4, E4, n4, hW4, hk4⟩
  clear p4
  have hK4 := hK3.trans hk4
  have hb4 := (hK4.xk hW) _ _ _ _ (by decide) hb
  have c4x1 : w4.cell? ⟨xb, 1, none⟩ = some (.iface T u) := by simp [World.cell?, hb4]
  have c4x2 : w4.cell? ⟨xb, 2, none⟩ = some (.iface T2 u2) := by simp [World.cell?, hb4]
  go_wp2_with fail
  refine Calls.mono (tk1 hW4 { data := #[41] } 2 (by have a0 : ({ data := #[41] } : ByteArray).size = 1 := rfl; omega) (by omega)) ?_
  rintro e w5 ⟨rfl, bs5, E5, n5, hW5, hk5⟩
  have hK5 := hK4.trans hk5
  go_wp2
  go_end0
  refine ⟨rfl, _, (rfl : opn { data := #[41] } = false), ?_, hK5⟩
  have EE : bs5 = bs ++ Lib.strCells (pre last ++ ({ data := #[40] } ++ txt x ++ { data := #[44, 32] } ++ txt y ++ { data := #[41] })) := by
    rw [E5.out, E4.out, E3.out, E2.out, E1.out, sC_join, sC_join, sC_join, sC_join, sep_wd (t := { data := #[40] }) rfl, sep_cl (t := { data := #[44] }) rfl, sep_cl (t := { data := #[41] }) rfl, pre_op (t := { data := #[40] }) rfl, pre_wd (t := { data := #[44] }) rfl]
    congr 2
    apply bytes_ext
    simp only [bytes_app, List.append_assoc, List.cons_append, List.nil_append]
  rw [← EE]
  exact hW5
set_option maxRecDepth 20000 in
set_option maxHeartbeats 1000000 in
theorem wif (x y z : X) (ihx : SWX x) (ihy : SWX y) (ihz : SWX z) (w : World) (P : Nat → Prop) (B b xb : Nat) (last : ByteArray) (bs : List Value) (d p q r : Value) (hb : w.heap[xb]? = some (.cells #[d, p, q, r] 332 (0, 0))) (hx : PX w P x p) (hy : PX w P y q) (hz : PX w P z r) (hW : BW 187 w B b (.string last) bs) (hlen : bs.length + ((tw x + 16 + (tw y + 16 + (tw z + 16))) + 16) + 1 ≤ 10000000) :
    Calls Tryz.prog 136 #[.pointer (some ⟨b, 0, none⟩), .pointer (some ⟨xb, 0, none⟩)] w fun e w' => e = .returned (.tuple #[]) ∧ ∃ last', opn last' = false ∧ BW 187 w' B b (.string last') (bs ++ Lib.strCells (pre last ++ ({ data := #[105, 102, 32] } ++ txt x ++ { data := #[32, 116, 104, 101, 110, 32] } ++ txt y ++ { data := #[32, 101, 108, 115, 101, 32] } ++ txt z))) ∧ KB B b w w' := by
  obtain ⟨T, u, rfl⟩ := hx.iface
  obtain ⟨T2, u2, rfl⟩ := hy.iface
  obtain ⟨T3, u3, rfl⟩ := hz.iface
  go_enter Tryz.func136, Tryz.ntmps136
  go_wp2_with fail
  refine Calls.mono (tk1 hW { data := #[105, 102] } 3 (by have a0 : ({ data := #[105, 102] } : ByteArray).size = 2 := rfl; omega) (by omega)) ?_
  rintro e w1 ⟨rfl, bs1, E1, n1, hW1, hk1⟩
  have hK1 := hk1
  have hb1 := (hK1.xk hW) _ _ _ _ (by decide) hb
  have c1x1 : w1.cell? ⟨xb, 1, none⟩ = some (.iface T u) := by simp [World.cell?, hb1]
  have c1x2 : w1.cell? ⟨xb, 2, none⟩ = some (.iface T2 u2) := by simp [World.cell?, hb1]
  have c1x3 : w1.cell? ⟨xb, 3, none⟩ = some (.iface T3 u3) := by simp [World.cell?, hb1]
  have p2 := hx.keepT (hK1.xk hW)
  go_wp2_with fail
  refine Calls.mono (xg ihx p2 hW1 (by omega)) ?_
  rintro e w2 ⟨rfl, l2, bs2, o2, E2, n2, hW2, hk2⟩
  clear p2
  have hK2 := hK1.trans hk2
  have hb2 := (hK2.xk hW) _ _ _ _ (by decide) hb
  have c2x1 : w2.cell? ⟨xb, 1, none⟩ = some (.iface T u) := by simp [World.cell?, hb2]
  have c2x2 : w2.cell? ⟨xb, 2, none⟩ = some (.iface T2 u2) := by simp [World.cell?, hb2]
  have c2x3 : w2.cell? ⟨xb, 3, none⟩ = some (.iface T3 u3) := by simp [World.cell?, hb2]
  go_wp2_with fail
  refine Calls.mono (tk1 hW2 { data := #[116, 104, 101, 110] } 5 (by have a0 : ({ data := #[116, 104, 101, 110] } : ByteArray).size = 4 := rfl; omega) (by omega)) ?_
  rintro e w3 ⟨rfl, bs3, E3, n3, hW3, hk3⟩
  have hK3 := hK2.trans hk3
  have hb3 := (hK3.xk hW) _ _ _ _ (by decide) hb
  have c3x1 : w3.cell? ⟨xb, 1, none⟩ = some (.iface T u) := by simp [World.cell?, hb3]
  have c3x2 : w3.cell? ⟨xb, 2, none⟩ = some (.iface T2 u2) := by simp [World.cell?, hb3]
  have c3x3 : w3.cell? ⟨xb, 3, none⟩ = some (.iface T3 u3) := by simp [World.cell?, hb3]
  have p4 := hy.keepT (hK3.xk hW)
  go_wp2_with fail
  refine Calls.mono (xg ihy p4 hW3 (by omega)) ?_
  rintro e w4 ⟨rfl, l4, bs4, o4, E4, n4, hW4, hk4⟩
  clear p4
  have hK4 := hK3.trans hk4
  have hb4 := (hK4.xk hW) _ _ _ _ (by decide) hb
  have c4x1 : w4.cell? ⟨xb, 1, none⟩ = some (.iface T u) := by simp [World.cell?, hb4]
  have c4x2 : w4.cell? ⟨xb, 2, none⟩ = some (.iface T2 u2) := by simp [World.cell?, hb4]
  have c4x3 : w4.cell? ⟨xb, 3, none⟩ = some (.iface T3 u3) := by simp [World.cell?, hb4]
  go_wp2_with fail
  refine Calls.mono (tk1 hW4 { data := #[101, 108, 115, 101] } 5 (by have a0 : ({ data := #[101, 108, 115, 101] } : ByteArray).size = 4 := rfl; omega) (by omega)) ?_
  rintro e w5 ⟨rfl, bs5, E5, n5, hW5, hk5⟩
  have hK5 := hK4.trans hk5
  have hb5 := (hK5.xk hW) _ _ _ _ (by decide) hb
  have c5x1 : w5.cell? ⟨xb, 1, none⟩ = some (.iface T u) := by simp [World.cell?, hb5]
  have c5x2 : w5.cell? ⟨xb, 2, none⟩ = some (.iface T2 u2) := by simp [World.cell?, hb5]
  have c5x3 : w5.cell? ⟨xb, 3, none⟩ = some (.iface T3 u3) := by simp [World.cell?, hb5]
  have p6 := hz.keepT (hK5.xk hW)
  go_wp2_with fail
  refine Calls.mono (xg ihz p6 hW5 (by omega)) ?_
  rintro e w6 ⟨rfl, l6, bs6, o6, E6, n6, hW6, hk6⟩
  clear p6
  have hK6 := hK5.trans hk6
  go_wp2
  go_end0
  refine ⟨rfl, _, o6, ?_, hK6⟩
  have EE : bs6 = bs ++ Lib.strCells (pre last ++ ({ data := #[105, 102, 32] } ++ txt x ++ { data := #[32, 116, 104, 101, 110, 32] } ++ txt y ++ { data := #[32, 101, 108, 115, 101, 32] } ++ txt z)) := by
    rw [E6.out, E5.out, E4.out, E3.out, E2.out, E1.out, sC_join, sC_join, sC_join, sC_join, sC_join, sep_wd (t := { data := #[105, 102] }) rfl, sep_wd (t := { data := #[116, 104, 101, 110] }) rfl, sep_wd (t := { data := #[101, 108, 115, 101] }) rfl, pre_wd (t := { data := #[105, 102] }) rfl, pre_wd (t := { data := #[116, 104, 101, 110] }) rfl, pre_wd (t := { data := #[101, 108, 115, 101] }) rfl, pre_wd o2, pre_wd o4]
    congr 2
    apply bytes_ext
    simp only [bytes_app, List.append_assoc, List.cons_append, List.nil_append]
  rw [← EE]
  exact hW6
set_option maxRecDepth 20000 in
set_option maxHeartbeats 1000000 in
theorem wx_ite (x y z : X) (loc : Nat) (ihx : SWX x) (ihy : SWX y) (ihz : SWX z) : SWX (.mk { data := #[105, 102] } [] [x, y, z] loc) := by
  intro v w P B b last bs h hW hlen
  have htw : tw (.mk { data := #[105, 102] } [] [x, y, z] loc) = (tw x + 16 + (tw y + 16 + (tw z + 16))) + 16 := by simp [tw, tws]
  rw [htw] at hlen
  rw [txt_ite]
  clear htw
  cases h with
  | ite x y z loc xb p q r hP hb hx hy hz =>
  have t0 := Tryz.xIfNa (.pointer (some ⟨xb, 0, none⟩)) w
  have t1 := Tryz.xIfNu (.pointer (some ⟨xb, 0, none⟩)) w
  have t2 := Tryz.xIfFu (.pointer (some ⟨xb, 0, none⟩)) w
  have t3 := Tryz.xIfIf (.pointer (some ⟨xb, 0, none⟩)) w
  have H1 : Hid _ := wif x y z ihx ihy ihz w P B b xb last bs _ p q r hb hx hy hz hW hlen
  clear hb hx hy hz hW
  go_enter Tryz.func100, Tryz.ntmps100
  go_wp2_with fail
  refine Calls.mono H1.out ?_
  rintro e w1 ⟨rfl, l, o, hW1, hk1⟩
  clear H1
  go_wp2
  go_end0
  exact ⟨rfl, l, o, hW1, hk1⟩
set_option maxRecDepth 20000 in
set_option maxHeartbeats 1000000 in
theorem wwithin {x : X} (c : Bool) (ih : SWX x) {v : Value} {w : World} {P : Nat → Prop} {B b : Nat} {last : ByteArray} {bs : List Value} (hx : PX w P x v) (hW : BW 187 w B b (.string last) bs) (hlen : bs.length + tw x + 6 ≤ 10000000) :
    Calls Tryz.prog 138 #[.pointer (some ⟨b, 0, none⟩), .bool c, v] w fun e w' => e = .returned (.tuple #[]) ∧ ∃ last' bs', opn last' = false ∧ Hid (bs' = bs ++ Lib.strCells (pre last ++ brk c (txt x))) ∧ bs'.length ≤ bs.length + tw x + 6 ∧ BW 187 w' B b (.string last') bs' ∧ KB B b w w' := by
  obtain ⟨T, u, rfl⟩ := hx.iface
  cases c
  · have H1 : Hid _ := xg ih hx hW (by omega)
    clear hx hW
    go_enter Tryz.func138, Tryz.ntmps138
    go_wp2_with fail
    refine Calls.mono H1.out ?_
    rintro e w1 ⟨rfl, l, bs1, o, E, n1, hW1, hk1⟩
    clear H1
    go_wp2
    exact bodyPost_ret (results_none Tryz.results138 _ _ _) rfl ⟨rfl, l, bs1, o, E, by omega, hW1, hk1⟩
  · go_enter Tryz.func138, Tryz.ntmps138
    go_wp2_with fail
    refine Calls.mono (tk1 hW { data := #[40] } 2 (by have a0 : ({ data := #[40] } : ByteArray).size = 1 := rfl; omega) (by omega)) ?_
    rintro e w1 ⟨rfl, bs1, E1, n1, hW1, hk1⟩
    have hK1 := hk1
    have p2 := hx.keepT (hK1.xk hW)
    go_wp2_with fail
    refine Calls.mono (xg ih p2 hW1 (by omega)) ?_
    rintro e w2 ⟨rfl, l2, bs2, o2, E2, n2, hW2, hk2⟩
    clear p2
    have hK2 := hK1.trans hk2
    go_wp2_with fail
    refine Calls.mono (tk1 hW2 { data := #[41] } 2 (by have a0 : ({ data := #[41] } : ByteArray).size = 1 := rfl; omega) (by omega)) ?_
    rintro e w3 ⟨rfl, bs3, E3, n3, hW3, hk3⟩
    have hK3 := hK2.trans hk3
    go_wp2
    go_end0
    refine ⟨rfl, _, bs3, (rfl : opn { data := #[41] } = false), ?_, by omega, hW3, hK3⟩
    show bs3 = bs ++ Lib.strCells (pre last ++ brk true (txt x))
    rw [E3.out, E2.out, E1.out, sC_join, sC_join, sep_wd (t := { data := #[40] }) rfl, sep_cl (t := { data := #[41] }) rfl, pre_op (t := { data := #[40] }) rfl, brk, if_pos rfl]
    congr 2
    apply bytes_ext
    simp only [bytes_app, List.append_assoc, List.cons_append, List.nil_append]
set_option maxRecDepth 20000 in
set_option maxHeartbeats 1000000 in
theorem wbf {x : X} {v : Value} {w : World} {P : Nat → Prop} (hx : PX w P x v) : Calls Tryz.prog 139 #[v] w fun e w' => e = .returned (.bool (needsF x.op)) ∧ w' = w := by
  cases hx with
  | name n loc xb hWd hP hb =>
    have tFu := Tryz.xNaFu (.pointer (some ⟨xb, 0, none⟩)) w
    have tIf := Tryz.xNaIf (.pointer (some ⟨xb, 0, none⟩)) w
    have tLe := Tryz.xNaLe (.pointer (some ⟨xb, 0, none⟩)) w
    have tRe := Tryz.xNaRe (.pointer (some ⟨xb, 0, none⟩)) w
    clear hb
    go_enter Tryz.func139, Tryz.ntmps139
    go_wp2
    go_ret
    exact ⟨rfl, rfl⟩
  | num n loc xb hWd hP hb =>
    have tFu := Tryz.xNuFu (.pointer (some ⟨xb, 0, none⟩)) w
    have tIf := Tryz.xNuIf (.pointer (some ⟨xb, 0, none⟩)) w
    have tLe := Tryz.xNuLe (.pointer (some ⟨xb, 0, none⟩)) w
    have tRe := Tryz.xNuRe (.pointer (some ⟨xb, 0, none⟩)) w
    clear hb
    go_enter Tryz.func139, Tryz.ntmps139
    go_wp2
    go_ret
    exact ⟨rfl, rfl⟩
  | fn n x loc xb p hWd hP hb hx =>
    have tFu := Tryz.xFuFu (.pointer (some ⟨xb, 0, none⟩)) w
    have tIf := Tryz.xFuIf (.pointer (some ⟨xb, 0, none⟩)) w
    have tLe := Tryz.xFuLe (.pointer (some ⟨xb, 0, none⟩)) w
    have tRe := Tryz.xFuRe (.pointer (some ⟨xb, 0, none⟩)) w
    clear hb
    go_enter Tryz.func139, Tryz.ntmps139
    go_wp2
    go_ret
    exact ⟨rfl, rfl⟩
  | ite x y z loc xb p q r hP hb hx hy hz =>
    have tFu := Tryz.xIfFu (.pointer (some ⟨xb, 0, none⟩)) w
    have tIf := Tryz.xIfIf (.pointer (some ⟨xb, 0, none⟩)) w
    have tLe := Tryz.xIfLe (.pointer (some ⟨xb, 0, none⟩)) w
    have tRe := Tryz.xIfRe (.pointer (some ⟨xb, 0, none⟩)) w
    clear hb
    go_enter Tryz.func139, Tryz.ntmps139
    go_wp2
    go_ret
    exact ⟨rfl, rfl⟩
  | lt n x y loc xb p q hWd hP hb hx hy =>
    have tFu := Tryz.xLeFu (.pointer (some ⟨xb, 0, none⟩)) w
    have tIf := Tryz.xLeIf (.pointer (some ⟨xb, 0, none⟩)) w
    have tLe := Tryz.xLeLe (.pointer (some ⟨xb, 0, none⟩)) w
    have tRe := Tryz.xLeRe (.pointer (some ⟨xb, 0, none⟩)) w
    clear hb
    go_enter Tryz.func139, Tryz.ntmps139
    go_wp2
    go_ret
    exact ⟨rfl, rfl⟩
  | rc names kids y loc xb nv vv q ps hN hW hP hb hn hv hnP hvP hl hl2 hk hy =>
    have tFu := Tryz.xReFu (.pointer (some ⟨xb, 0, none⟩)) w
    have tIf := Tryz.xReIf (.pointer (some ⟨xb, 0, none⟩)) w
    have tLe := Tryz.xReLe (.pointer (some ⟨xb, 0, none⟩)) w
    have tRe := Tryz.xReRe (.pointer (some ⟨xb, 0, none⟩)) w
    clear hb
    go_enter Tryz.func139, Tryz.ntmps139
    go_wp2
    go_ret
    exact ⟨rfl, rfl⟩
  | app x y loc xb p q hP hb hx hy =>
    have tFu := Tryz.xApFu (.pointer (some ⟨xb, 0, none⟩)) w
    have tIf := Tryz.xApIf (.pointer (some ⟨xb, 0, none⟩)) w
    have tLe := Tryz.xApLe (.pointer (some ⟨xb, 0, none⟩)) w
    have tRe := Tryz.xApRe (.pointer (some ⟨xb, 0, none⟩)) w
    clear hb
    go_enter Tryz.func139, Tryz.ntmps139
    go_wp2
    go_ret
    exact ⟨rfl, rfl⟩
  | pair x y loc xb p q hP hb hx hy =>
    have tFu := Tryz.xPaFu (.pointer (some ⟨xb, 0, none⟩)) w
    have tIf := Tryz.xPaIf (.pointer (some ⟨xb, 0, none⟩)) w
    have tLe := Tryz.xPaLe (.pointer (some ⟨xb, 0, none⟩)) w
    have tRe := Tryz.xPaRe (.pointer (some ⟨xb, 0, none⟩)) w
    clear hb
    go_enter Tryz.func139, Tryz.ntmps139
    go_wp2
    go_ret
    exact ⟨rfl, rfl⟩
set_option maxRecDepth 20000 in
set_option maxHeartbeats 1000000 in
theorem wba {x : X} {v : Value} {w : World} {P : Nat → Prop} (hx : PX w P x v) : Calls Tryz.prog 140 #[v] w fun e w' => e = .returned (.bool (needsA x.op)) ∧ w' = w := by
  cases hx with
  | name n loc xb hWd hP hb =>
    have tNa := Tryz.xNaNa (.pointer (some ⟨xb, 0, none⟩)) w
    have tNu := Tryz.xNaNu (.pointer (some ⟨xb, 0, none⟩)) w
    have tPa := Tryz.xNaPa (.pointer (some ⟨xb, 0, none⟩)) w
    clear hb
    go_enter Tryz.func140, Tryz.ntmps140
    go_wp2
    go_ret
    exact ⟨rfl, rfl⟩
  | num n loc xb hWd hP hb =>
    have tNa := Tryz.xNuNa (.pointer (some ⟨xb, 0, none⟩)) w
    have tNu := Tryz.xNuNu (.pointer (some ⟨xb, 0, none⟩)) w
    have tPa := Tryz.xNuPa (.pointer (some ⟨xb, 0, none⟩)) w
    clear hb
    go_enter Tryz.func140, Tryz.ntmps140
    go_wp2
    go_ret
    exact ⟨rfl, rfl⟩
  | fn n x loc xb p hWd hP hb hx =>
    have tNa := Tryz.xFuNa (.pointer (some ⟨xb, 0, none⟩)) w
    have tNu := Tryz.xFuNu (.pointer (some ⟨xb, 0, none⟩)) w
    have tPa := Tryz.xFuPa (.pointer (some ⟨xb, 0, none⟩)) w
    clear hb
    go_enter Tryz.func140, Tryz.ntmps140
    go_wp2
    go_ret
    exact ⟨rfl, rfl⟩
  | ite x y z loc xb p q r hP hb hx hy hz =>
    have tNa := Tryz.xIfNa (.pointer (some ⟨xb, 0, none⟩)) w
    have tNu := Tryz.xIfNu (.pointer (some ⟨xb, 0, none⟩)) w
    have tPa := Tryz.xIfPa (.pointer (some ⟨xb, 0, none⟩)) w
    clear hb
    go_enter Tryz.func140, Tryz.ntmps140
    go_wp2
    go_ret
    exact ⟨rfl, rfl⟩
  | lt n x y loc xb p q hWd hP hb hx hy =>
    have tNa := Tryz.xLeNa (.pointer (some ⟨xb, 0, none⟩)) w
    have tNu := Tryz.xLeNu (.pointer (some ⟨xb, 0, none⟩)) w
    have tPa := Tryz.xLePa (.pointer (some ⟨xb, 0, none⟩)) w
    clear hb
    go_enter Tryz.func140, Tryz.ntmps140
    go_wp2
    go_ret
    exact ⟨rfl, rfl⟩
  | rc names kids y loc xb nv vv q ps hN hW hP hb hn hv hnP hvP hl hl2 hk hy =>
    have tNa := Tryz.xReNa (.pointer (some ⟨xb, 0, none⟩)) w
    have tNu := Tryz.xReNu (.pointer (some ⟨xb, 0, none⟩)) w
    have tPa := Tryz.xRePa (.pointer (some ⟨xb, 0, none⟩)) w
    clear hb
    go_enter Tryz.func140, Tryz.ntmps140
    go_wp2
    go_ret
    exact ⟨rfl, rfl⟩
  | app x y loc xb p q hP hb hx hy =>
    have tNa := Tryz.xApNa (.pointer (some ⟨xb, 0, none⟩)) w
    have tNu := Tryz.xApNu (.pointer (some ⟨xb, 0, none⟩)) w
    have tPa := Tryz.xApPa (.pointer (some ⟨xb, 0, none⟩)) w
    clear hb
    go_enter Tryz.func140, Tryz.ntmps140
    go_wp2
    go_ret
    exact ⟨rfl, rfl⟩
  | pair x y loc xb p q hP hb hx hy =>
    have tNa := Tryz.xPaNa (.pointer (some ⟨xb, 0, none⟩)) w
    have tNu := Tryz.xPaNu (.pointer (some ⟨xb, 0, none⟩)) w
    have tPa := Tryz.xPaPa (.pointer (some ⟨xb, 0, none⟩)) w
    clear hb
    go_enter Tryz.func140, Tryz.ntmps140
    go_wp2
    go_ret
    exact ⟨rfl, rfl⟩
end Go.Proofs.YtleenphlgbklmaaGreatDoor
