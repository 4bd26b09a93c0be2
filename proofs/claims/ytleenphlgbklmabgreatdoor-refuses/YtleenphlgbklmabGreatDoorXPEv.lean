import Derived.Test.YtleenphlgbklmabGreatDoorXPWz
import Derived.Test.YtleenphlgbklmabGreatDoorXPWa
import Derived.Test.YtleenphlgbklmabGreatDoorXPDep
import Derived.Test.YtleenphlgbklmabGreatDoorXPParse
import Derived.Test.YtleenphlgbklmabGreatDoorXPKq
import Derived.Test.YtleenphlgbklmabGreatDoorXPRdA
set_option linter.unusedVariables false
set_option linter.unusedSimpArgs false
namespace Go.Proofs.YtleenphlgbklmabGreatDoor
open Go.RowKit

theorem txt_rec (names : List ByteArray) (kids : List X) (y : X) (loc : Nat) (h : names.length = kids.length) : txt (.mk { data := #[114, 101, 99] } names (kids ++ [y]) loc) = letT ({ data := #[108, 101, 116, 32] } ++ { data := #[114, 101, 99, 32] }) names (txts (kids ++ [y])) names.length ++ { data := #[32, 105, 110, 32] } ++ txt y := by
  rw [txt, if_neg (bne_of (by decide)), if_neg (bne_of (by decide)), if_neg (bne_of (by decide)), if_neg (bne_of (by decide)), if_neg (bne_of (by decide)), if_pos rfl, txts_get _ _ (by simp; omega), h]
  simp [List.getD]
/-- what the loop has written behind so many bindings: all but the blank at the end. -/
def recT (names : List ByteArray) (ts : List ByteArray) : Nat → ByteArray
  | 0 => { data := #[108, 101, 116] } ++ { data := #[32] } ++ { data := #[114, 101, 99] }
  | q + 1 => recT names ts q ++ (if 0 < q then { data := #[32] } ++ { data := #[97, 110, 100] } else { data := #[] }) ++ { data := #[32] } ++ names.getD q { data := #[] } ++ { data := #[32, 61, 32] } ++ ts.getD q { data := #[] }
theorem letT_rec (names ts : List ByteArray) : ∀ q, letT ({ data := #[108, 101, 116, 32] } ++ { data := #[114, 101, 99, 32] }) names ts (q + 1) = recT names ts (q + 1) := by
  intro q
  induction q with
  | zero =>
    simp only [letT, recT, Nat.lt_irrefl, if_false]
    apply bytes_ext
    simp only [bytes_app, List.append_assoc, List.cons_append, List.nil_append]
  | succ q ih =>
    rw [letT, recT, if_pos (by omega), if_pos (by omega), ih]
    apply bytes_ext
    simp only [bytes_app, List.append_assoc, List.cons_append, List.nil_append]
set_option maxRecDepth 20000 in
set_option maxHeartbeats 1000000 in
theorem wrec (names : List ByteArray) (kids : List X) (y : X) (loc : Nat) (ihk : ∀ x, x ∈ kids → SWX x) (ihy : SWX y) (w : World) (P : Nat → Prop) (B b xb : Nat) (last : ByteArray) (bs : List Value) (d nv vv q : Value) (ps : List Value) (hN : names ≠ []) (hWd : ∀ m, m ∈ names → Wd m)
    (hb : w.heap[xb]? = some (.cells #[d, nv, vv, q] 291 (0, 0))) (hn : w.ownsRow 0 9 1 nv names.length (names.map Value.string)) (hv : w.ownsRow 0 107 1 vv ps.length ps) (hl : ps.length = kids.length) (hl2 : names.length = kids.length) (hk : ∀ (j : Nat) (x : X) (p : Value), kids[j]? = some x → ps[j]? = some p → PX w P x p) (hy : PX w P y q) (hW : BW 182 w B b (.string last) bs) (hlen : bs.length + ((names.map fun s => s.size + 16).sum + (tws kids + (tw y + 16)) + 16) + 1 ≤ 10000000) :
    Calls Tryz.prog 114 #[.pointer (some ⟨b, 0, none⟩), .pointer (some ⟨xb, 0, none⟩)] w fun e w' => e = .returned (.tuple #[]) ∧ ∃ last', opn last' = false ∧ BW 182 w' B b (.string last') (bs ++ Lib.strCells (pre last ++ txt (.mk { data := #[114, 101, 99] } names (kids ++ [y]) loc))) ∧ KB B b w w' := by
  rw [txt_rec names kids y loc hl2]
  obtain ⟨T, u, rfl⟩ := hy.iface
  have hn' : w.ownsRow 0 9 1 nv (names.map Value.string).length (names.map Value.string) := by rw [List.length_map]; exact hn
  obtain ⟨ao, cap, rfl, hrn⟩ := row_form hn'
  obtain ⟨av, cav, rfl, hrv⟩ := row_form hv
  rw [List.length_map] at hrn hb
  have hml : names.length ≤ 9223372036854775807 := by
    rcases hn.2 with ⟨e1, e2⟩ | ⟨g, c', cur, e1, _, _, e4, e5, _⟩
    · omega
    · unfold maxLen at e5; omega
  have hn1 : 1 ≤ names.length := by cases names with | nil => exact absurd rfl hN | cons a l => simp
  have HL : Hid (ps.length = kids.length) := hl
  have HL2 : Hid (names.length = kids.length) := hl2
  rw [hl.trans hl2.symm] at hb hrv
  clear hl hl2
  go_enter Tryz.func114, Tryz.ntmps114
  go_wp2_with fail
  refine Calls.mono (tk2 hW { data := #[108, 101, 116] } { data := #[114, 101, 99] } 8 (by decide) (by omega)) ?_
  rintro e w1 ⟨rfl, bs1, E1, n1, hW1, hk1⟩
  have hb1 := (hk1.xk hW) _ _ _ _ (by decide) hb
  have c1 : w1.cell? ⟨xb, 1, none⟩ = some (.slice ao names.length cap) := by simp [World.cell?, hb1]
  go_wp2_with fail
  have HK1 : Hid (bs1 = bs ++ Lib.strCells (pre last ++ recT names (txts (kids ++ [y])) 0)) := by
    show _ = _
    rw [E1.out, sep_wd (t := { data := #[108, 101, 116] }) rfl, sep_wd (t := { data := #[114, 101, 99] }) rfl, pre_wd (t := { data := #[108, 101, 116] }) rfl]
    congr 2
    apply bytes_ext
    simp only [recT, bytes_app, List.append_assoc, List.cons_append, List.nil_append]
  clear E1 hn
  go_loopw [14] (fun i wr => KB B b w wr ∧ ∃ j : Nat, j ≤ names.length ∧ i = .int .i64 j ∧ ∃ l bsr, opn l = false ∧ BW 182 wr B b (.string l) bsr ∧ Hid (bsr = bs ++ Lib.strCells (pre last ++ recT names (txts (kids ++ [y])) j)) ∧ bsr.length ≤ bs.length + 8 + ((names.take j).map fun s => s.size + 16).sum + tws (kids.take j)) (fun i _ => names.length - (intOf i).toNat)
  case atStart => exact ⟨hk1, 0, Nat.zero_le _, rfl, { data := #[114, 101, 99] }, bs1, rfl, hW1, HK1, by simp [tws]; omega⟩
  case round =>
    obtain ⟨hkr, j, hj, rfl, l, bsr, ol, hWr, EB, nb⟩ := hrel
    have xk := hkr.xk hW
    have hsl := sum_take names j
    have htl := tws_take kids j
    have hbr := xk _ _ _ _ (by decide) hb
    by_cases hlt : j < names.length
    · have hjk : j < kids.length := by rw [← HL2.out]; exact hlt
      have hjp : j < ps.length := by rw [HL.out]; exact hjk
      obtain ⟨g, rfl, _⟩ := hrn j hlt
      obtain ⟨gv, rfl, _⟩ := hrv j hlt
      have cn : wr.cell? ⟨g, j, none⟩ = some (.string names[j]) := by
        obtain ⟨ao', cap', e, hr⟩ := row_form (xk.row (by decide) hn')
        cases e
        obtain ⟨g', e2, hc⟩ := hr j (by rw [List.length_map]; exact hlt)
        cases e2
        rw [hc]
        simp [hlt]
      have hpx := hk j kids[j] ps[j] (by simp [hjk]) (by simp [hjp])
      obtain ⟨T2, u2, hTu⟩ := hpx.iface
      have HC : Hid (∀ w3, KB B b w w3 → w3.cell? ⟨gv, j, none⟩ = some (.iface T2 u2)) := fun w3 hk3 => by
        obtain ⟨ao', cap', e, hr⟩ := row_form ((hk3.xk hW).row (by decide) hv)
        cases e
        obtain ⟨g', e2, hc⟩ := hr j hjp
        cases e2
        rw [hc, List.getElem?_eq_getElem hjp, hTu]
      rw [hTu] at hpx
      have ihx := ihk kids[j] (List.getElem_mem hjk)
      have hwd := hWd names[j] (List.getElem_mem hlt)
      have HG1 : Hid ((names.getD j { data := #[] }) = names[j]) := by show _ = _; simp [List.getD, hlt]
      have HG2 : Hid ((kids.getD j X.none) = kids[j]) := by show _ = _; simp [List.getD, hjk]
      have hts : (txts (kids ++ [y])).getD j { data := #[] } = txt kids[j] := by
        rw [txts_get _ _ (by simp; omega)]
        congr 1
        simp [List.getD, List.getElem?_append_left hjk, hjk]
      have HST : Hid (recT names (txts (kids ++ [y])) (j + 1) = recT names (txts (kids ++ [y])) j ++ (if 0 < j then { data := #[32] } ++ { data := #[97, 110, 100] } else { data := #[] }) ++ { data := #[32] } ++ names[j] ++ { data := #[32, 61, 32] } ++ txt kids[j]) := by
        show _ = _
        rw [recT, HG1.out, hts]
      have hs1 := sum_take names (j + 1)
      rw [sum_take_succ names j hlt, HG1.out] at hs1
      have hs2 := tws_take kids (j + 1)
      rw [tws_take_succ kids j hjk, HG2.out] at hs2
      clear hts hTu hrn hrv hk hWd ihk hn' hv xk hW1 c1 hb1
      generalize names[j] = nm at *
      generalize kids[j] = x at *
      by_cases hj0 : 0 < j
      · go_wp2_with fail
        refine Calls.mono (tk1 hWr { data := #[97, 110, 100] } 4 (by decide) (by omega)) ?_
        rintro e w2 ⟨rfl, bs2, E2, n2, hW2, hk2⟩
        have hK2 := hkr.trans hk2
        go_wp2_with fail
        refine Calls.mono (tk2 hW2 nm { data := #[61] } (nm.size + 3) (by have a1 : ({ data := #[61] } : ByteArray).size = 1 := rfl; omega) (by omega)) ?_
        rintro e w3 ⟨rfl, bs3, E3, n3, hW3, hk3⟩
        have hK3 := hK2.trans hk3
        have hb3 := (hK3.xk hW) _ _ _ _ (by decide) hb
        have c3 : w3.cell? ⟨xb, 2, none⟩ = some (.slice (some ⟨gv, 0, none⟩) names.length cav) := by simp [World.cell?, hb3]
        have cv3 : w3.cell? ⟨gv, j, none⟩ = some (.iface T2 u2) := HC.out w3 hK3
        have p3 := hpx.keepT (hK3.xk hW)
        go_wp2_with fail
        refine Calls.mono (xg ihx p3 hW3 (by omega)) ?_
        rintro e w4 ⟨rfl, l4, bs4, o4, E4, n4, hW4, hk4⟩
        have hK4 := hK3.trans hk4
        clear hW2 hW3 hWr p3 hb3 c3 cv3 hpx
        go_wp2
        refine ⟨⟨hK4, j + 1, by omega, by go_num, l4, bs4, o4, hW4, ?_, ?_⟩, by simp [intOf]; omega⟩
        · show bs4 = _
          rw [E4.out, E3.out, E2.out, EB.out, HST.out, sC_join, sC_join, sC_join, sep_wd (t := { data := #[97, 110, 100] }) rfl, pre_wd ol, sep_wd hwd.c, sep_wd (t := { data := #[61] }) rfl, pre_wd (t := { data := #[97, 110, 100] }) rfl, pre_wd hwd.o, pre_wd (t := { data := #[61] }) rfl, if_pos hj0]
          congr 2
          apply bytes_ext
          simp only [bytes_app, List.append_assoc, List.cons_append, List.nil_append]
        · rw [sum_take_succ names j hlt, tws_take_succ kids j hjk]
          rw [HG1.out, HG2.out]
          omega
      · have hk2 := KB.refl B b wr
        have hK2 := hkr
        have E2 : Hid (bsr = bsr) := rfl
        have n2 : bsr.length ≤ bsr.length + 0 := by omega
        have hW2 := hWr
        obtain rfl : j = 0 := by omega
        clear hj0
        go_wp2_with fail
        refine Calls.mono (tk2 hW2 nm { data := #[61] } (nm.size + 3) (by have a1 : ({ data := #[61] } : ByteArray).size = 1 := rfl; omega) (by omega)) ?_
        rintro e w3 ⟨rfl, bs3, E3, n3, hW3, hk3⟩
        have hK3 := hK2.trans hk3
        have hb3 := (hK3.xk hW) _ _ _ _ (by decide) hb
        have c3 : w3.cell? ⟨xb, 2, none⟩ = some (.slice (some ⟨gv, 0, none⟩) names.length cav) := by simp [World.cell?, hb3]
        have cv3 : w3.cell? ⟨gv, 0, none⟩ = some (.iface T2 u2) := HC.out w3 hK3
        have p3 := hpx.keepT (hK3.xk hW)
        go_wp2_with fail
        refine Calls.mono (xg ihx p3 hW3 (by omega)) ?_
        rintro e w4 ⟨rfl, l4, bs4, o4, E4, n4, hW4, hk4⟩
        have hK4 := hK3.trans hk4
        clear hW2 hW3 hWr p3 hb3 c3 cv3 hpx
        go_wp2
        refine ⟨⟨hK4, 0 + 1, by omega, by go_num, l4, bs4, o4, hW4, ?_, ?_⟩, by simp [intOf]; omega⟩
        · show bs4 = _
          rw [E4.out, E3.out, EB.out, HST.out, sC_join, sC_join, sep_wd hwd.c, sep_wd (t := { data := #[61] }) rfl, pre_wd ol, pre_wd hwd.o, pre_wd (t := { data := #[61] }) rfl, if_neg (Nat.lt_irrefl 0)]
          congr 2
          apply bytes_ext
          simp only [bytes_app, List.append_assoc, List.cons_append, List.nil_append]
        · rw [sum_take_succ names 0 hlt, tws_take_succ kids 0 hjk]
          rw [HG1.out, HG2.out]
          omega
    · have hj2 : j = names.length := by omega
      have hbF := hbr
      have cF : wr.cell? ⟨xb, 3, none⟩ = some (.iface T u) := by simp [World.cell?, hbr]
      have HJ : Hid (j = names.length) := hj2
      clear hrn hrv hk hWd ihk hn' hv xk hW1 c1 hb1 hj2
      go_wp2_with fail
      refine Calls.mono (tk1 hWr { data := #[105, 110] } 3 (by decide) (by omega)) ?_
      rintro e w2 ⟨rfl, bs2, E2, n2, hW2, hk2⟩
      have hK2 := hkr.trans hk2
      have hb2 := (hK2.xk hW) _ _ _ _ (by decide) hb
      have c2 : w2.cell? ⟨xb, 3, none⟩ = some (.iface T u) := by simp [World.cell?, hb2]
      have p2 := hy.keepT (hK2.xk hW)
      go_wp2_with fail
      refine Calls.mono (xg ihy p2 hW2 (by omega)) ?_
      rintro e w3 ⟨rfl, l3, bs3, o3, E3, n3, hW3, hk3⟩
      have hK3 := hK2.trans hk3
      clear hW2 hWr p2 c2 hb2 cF hbF hbr
      go_wp2
      go_end0
      refine ⟨rfl, l3, o3, ?_, hK3⟩
      have EE : bs3 = bs ++ Lib.strCells (pre last ++ (letT ({ data := #[108, 101, 116, 32] } ++ { data := #[114, 101, 99, 32] }) names (txts (kids ++ [y])) names.length ++ { data := #[32, 105, 110, 32] } ++ txt y)) := by
        obtain ⟨m, hm⟩ : ∃ m, names.length = m + 1 := ⟨names.length - 1, by omega⟩
        rw [E3.out, E2.out, EB.out, HJ.out, hm, letT_rec, sC_join, sC_join, sep_wd (t := { data := #[105, 110] }) rfl, pre_wd ol, pre_wd (t := { data := #[105, 110] }) rfl]
        congr 2
        apply bytes_ext
        simp only [bytes_app, List.append_assoc, List.cons_append, List.nil_append]
      rw [← EE]
      exact hW3
end Go.Proofs.YtleenphlgbklmabGreatDoor

namespace Go.Proofs.YtleenphlgbklmabGreatDoor
open Go.RowKit

set_option maxRecDepth 20000 in
set_option maxHeartbeats 1000000 in
theorem wx_all (x : X) : SWX x := by
  induction x using X.ind with
  | h op names kids loc ih =>
  intro v w P B b last bs h hW hlen
  cases h with
  | name n loc xb hWd hP hb => exact wx_name n loc _ w P B b last bs (.name n loc xb hWd hP hb) hW hlen
  | num n loc xb hWd hP hb => exact wx_num n loc _ w P B b last bs (.num n loc xb hWd hP hb) hW hlen
  | fn n x loc xb p hWd hP hb hx => exact wx_fn n x loc (ih x (by simp)) _ w P B b last bs (.fn n x loc xb p hWd hP hb hx) hW hlen
  | ite x y z loc xb p q r hP hb hx hy hz => exact wx_ite x y z loc (ih x (by simp)) (ih y (by simp)) (ih z (by simp)) _ w P B b last bs (.ite x y z loc xb p q r hP hb hx hy hz) hW hlen
  | lt n x y loc xb p q hWd hP hb hx hy => exact wx_let n x y loc (ih x (by simp)) (ih y (by simp)) _ w P B b last bs (.lt n x y loc xb p q hWd hP hb hx hy) hW hlen
  | app x y loc xb p q hP hb hx hy => exact wx_app x y loc (ih x (by simp)) (ih y (by simp)) _ w P B b last bs (.app x y loc xb p q hP hb hx hy) hW hlen
  | pair x y loc xb p q hP hb hx hy => exact wx_pair x y loc (ih x (by simp)) (ih y (by simp)) _ w P B b last bs (.pair x y loc xb p q hP hb hx hy) hW hlen
  | rc names kids y loc xb nv vv q ps hN hWd hP hb hn hv hnP hvP hl hl2 hk hy =>
    have htw : tw (.mk { data := #[114, 101, 99] } names (kids ++ [y]) loc) = (names.map fun s => s.size + 16).sum + (tws kids + (tw y + 16)) + 16 := by rw [tw, tws_append]
    rw [htw] at hlen
    have HR : Hid _ := wrec names kids y loc (fun x hx => ih x (by simp [hx])) (ih y (by simp)) w P B b xb last bs _ nv vv q ps hN hWd hb hn hv hl hl2 hk hy hW hlen
    have t0 := Tryz.xReNa (.pointer (some ⟨xb, 0, none⟩)) w
    have t1 := Tryz.xReNu (.pointer (some ⟨xb, 0, none⟩)) w
    have t2 := Tryz.xReFu (.pointer (some ⟨xb, 0, none⟩)) w
    have t3 := Tryz.xReIf (.pointer (some ⟨xb, 0, none⟩)) w
    have t4 := Tryz.xReLe (.pointer (some ⟨xb, 0, none⟩)) w
    have t5 := Tryz.xReRe (.pointer (some ⟨xb, 0, none⟩)) w
    clear hb hn hv hnP hvP hl hl2 hk hy hW ih htw hlen hN hWd
    go_enter Tryz.func76, Tryz.ntmps76
    go_wp2_with fail
    refine Calls.mono HR.out ?_
    rintro e w1 ⟨rfl, l1, o1, hW1, hk1⟩
    clear HR
    go_wp2
    go_end0
    exact ⟨rfl, l1, o1, hW1, hk1⟩
theorem wd_pos {n : ByteArray} (h : Wd n) : 0 < n.size := by
  have o := h.o
  unfold opn at o
  simp only [Bool.or_eq_false_iff] at o
  refine Nat.pos_of_ne_zero (fun z => ?_)
  have e : n = { data := #[] } := by
    apply bytes_ext
    have : n.data.size = 0 := z
    have e : n.data = #[] := Array.eq_empty_of_size_eq_zero this
    rw [e]
  rw [e] at o
  exact absurd o.1 (by decide)
theorem PX.pos {w : World} {P : Nat → Prop} {x : X} {v : Value} (h : PX w P x v) : 0 < (txt x).size := by
  cases h with
  | name n loc xb hWd hP hb => rw [txt_name]; exact wd_pos hWd
  | num n loc xb hWd hP hb => rw [txt_num]; exact wd_pos hWd
  | fn n x loc xb p hWd hP hb hx =>
    rw [txt_fn]
    have := wd_pos hWd
    simp only [ByteArray.size_append]
    omega
  | ite x y z loc xb p q r hP hb hx hy hz =>
    rw [txt_ite]
    simp only [ByteArray.size_append]
    have : ({ data := #[105, 102, 32] } : ByteArray).size = 3 := rfl
    omega
  | lt n x y loc xb p q hWd hP hb hx hy =>
    rw [txt_let]
    have := wd_pos hWd
    simp only [ByteArray.size_append]
    omega
  | app x y loc xb p q hP hb hx hy =>
    rw [txt_app]
    simp only [ByteArray.size_append]
    have : ({ data := #[32] } : ByteArray).size = 1 := rfl
    omega
  | pair x y loc xb p q hP hb hx hy =>
    rw [txt_pair]
    simp only [ByteArray.size_append]
    have : ({ data := #[40] } : ByteArray).size = 1 := rfl
    omega
  | rc names kids y loc xb nv vv q ps hN hWd hP hb hn hv hnP hvP hl hl2 hk hy =>
    rw [txt_rec _ _ _ _ hl2]
    simp only [ByteArray.size_append]
    have : ({ data := #[32, 105, 110, 32] } : ByteArray).size = 4 := rfl
    omega
set_option maxRecDepth 20000 in
set_option maxHeartbeats 1000000 in
theorem pshowx_any (w : World) (P : Nat → Prop) (x : X) (v : Value) (h : PX w P x v) (hs : tw x ≤ 1000000) :
    Calls Tryz.prog 47 #[v] w fun e w' => e = .returned (.string (txt x)) ∧ Below w.heap.size w w' := by
  obtain ⟨T, u, rfl⟩ := h.iface
  have hpos := h.pos
  have hkF : Kp (fun _ => False) w (w.alloc (.cells #[.pointer none, .slice none 0 0, .string { data := #[] }] 182)) := (Kp.refl _ w).alloc _
  have hT : BW 182 (w.alloc (.cells #[.pointer none, .slice none 0 0, .string { data := #[] }] 182)) w.heap.size w.heap.size (.string { data := #[] }) [] := ⟨Nat.le_refl _, _, _, .inl rfl, heap_alloc_new _ _, World.ownsRow_nil _ _ _ _, by simp [Value.ownBlock]⟩
  have HW : Hid _ := wx_all x (.iface T u) _ P w.heap.size w.heap.size { data := #[] } [] (h.kp hkF) hT (by simp; omega)
  have HS : Hid (∀ w' l, BW 182 w' w.heap.size w.heap.size (.string l) (Lib.byteCells (txt x).data.toList) → Calls Tryz.prog 77 #[.pointer (some ⟨w.heap.size, 0, none⟩)] w' fun e w'' => e = .returned (.string (txt x)) ∧ Below w.heap.size w' w'') := fun w' l hT' => (bstr_any 182 _ _ _ _ w' hT' (by
      intro z
      have : (txt x).data.size = 0 := by rw [← Array.length_toList, z]; rfl
      have e : (txt x).size = (txt x).data.size := rfl
      omega)).mono (fun e w'' ⟨h1, h2⟩ => ⟨by rw [h1], h2⟩)
  have hpe : pre { data := #[] } ++ txt x = txt x := by
    apply bytes_ext
    rw [pre_op rfl, bytes_app]
    simp
  rw [hpe, List.nil_append, Lib.strCells_eq] at HW
  clear hT hpos h hpe
  go_enter Tryz.func47, Tryz.ntmps47
  go_wp2_with (go_at_call 76; refine Calls.mono HW.out ?_; rintro e w2 ⟨rfl, l2, o2, hT2, hk2⟩)
  go_wp2_with (go_at_call 77; refine Calls.mono (HS.out w2 l2 hT2) ?_; rintro e w3 ⟨rfl, hb3⟩)
  go_ret
  have hK : Kp (fun q => w.heap.size ≤ q) w w2 := (hkF.mono (fun _ _ z => z.elim)).trans hk2.kp
  exact ⟨rfl, hb3.os.trans hK.os, hb3.tape.trans hK.tape, hb3.output.trans hK.output, Nat.le_trans hK.size hb3.size, fun q hq => (hb3.block q hq).trans (hK.block q hq (fun z => by omega))⟩
end Go.Proofs.YtleenphlgbklmabGreatDoor

namespace Go.Proofs.YtleenphlgbklmabGreatDoor
open Go.RowKit

/-- behind parse: what its ways out are. -/
def PPost (A : Nat → Addr) (w : World) (F : Int) (x : X) (e : Ending) (w' : World) : Prop := Kept w w' ∧
  ((∃ b l : Nat, F = l ∧ e = .returned (.tuple #[.nilIface, .iface 83 (.pointer (some ⟨b, 0, none⟩))]) ∧ w'.heap[b]? = some (.cells #[.int .i64 l] 94 (0, 0))) ∨
  (F < 0 ∧ 40 < dp x ∧ e = .returned (.tuple #[.nilIface, .iface 342 (.pointer (some (A 1)))])) ∨
  (F < 0 ∧ dp x ≤ 40 ∧ ∃ v, e = .returned (.tuple #[v, .nilIface]) ∧ PX w' (fun b => w.heap.size ≤ b) x v))
theorem pparse_any {A : Nat → Addr} {s : ByteArray} {L : List Tk} (hE : PEnv s wordsL L) (w : World) (hG : Glb A w) (n : Nat) (x : X) (K : Nat) (B : Int) (hM : expM L n 0 (-1) = some (x, K, B)) :
    Calls Tryz.prog 46 #[.string s] w (PPost A w (needB L { data := #[101, 110, 100] } K B) x) := by
  by_cases h0 : (tkAt L 0).is = { data := #[110, 111, 110, 101] }
  · obtain ⟨hlp, hl0⟩ := lex0 hE
    have hT := tk_none hE.kw hE.eq 0 hlp h0
    rw [hl0] at hT
    have z0 : bz L 0 (-1) = (tkAt L 0).loc := bz_none (by omega) h0
    have z1 := (stk L n).ex _ _ _ _ _ hM (by rw [z0]; omega)
    have hn : needB L { data := #[101, 110, 100] } K B = (run blI s 0 : Nat) := by
      rw [(need_bz (by rw [z1, z0]; omega) (by decide)).2, z1, z0, hl0]
    have HN : Hid _ := (pnew_none s ((w.alloc (.cells #[.nilIface] 107)).alloc (.cells #[.nilIface] 56)) hE.sz hT).mono (R' := fun e w' => ∃ T z, e = thrown (.iface T z) ∧ (fun T z w2 => ∃ b : Nat, T = 83 ∧ z = .pointer (some ⟨b, 0, none⟩) ∧ w2.heap[b]? = some (.cells #[.int .i64 (run blI s 0 : Nat)] 94 (0, 0)) ∧ w.heap.size + 2 ≤ b) T z w' ∧ Kept ((w.alloc (.cells #[.nilIface] 107)).alloc (.cells #[.nilIface] 56)) w') (fun e w' ⟨b, h1, h2, h3, h4⟩ => ⟨_, _, h1, ⟨b, rfl, rfl, h2, by simpa using h3⟩, h4⟩)
    refine (pp_throw _ s w HN).mono ?_
    rintro e w' ⟨T, z, w2, rfl, ⟨b, rfl, rfl, hb, hbb⟩, hK, hX⟩
    exact ⟨hK, .inl ⟨b, _, hn, rfl, hX b _ hbb hb⟩⟩
  · exact pp_main hE w hG n x K B hM h0 _ (fun b l w' hK hn hb => ⟨hK, .inl ⟨b, l, hn, rfl, hb⟩⟩) (fun w' hK h1 h2 => ⟨hK, .inr (.inl ⟨h1, h2, rfl⟩)⟩) (fun v w' hK h1 h2 hx => ⟨hK, .inr (.inr ⟨h1, h2, v, rfl, hx⟩)⟩)
theorem pparse_long {A : Nat → Addr} (s : ByteArray) (w : World) (hG : Glb A w) (h : 300 < s.size) (hm : s.size ≤ 9223372036854775807) :
    Calls Tryz.prog 46 #[.string s] w fun e w' => e = .returned (.tuple #[.nilIface, .iface 342 (.pointer (some (A 0)))]) ∧ Kept w w' := by
  have hk1 : Kept w ((w.alloc (.cells #[.nilIface] 107)).alloc (.cells #[.nilIface] 56)) := (Kept.alloc _ _).trans (Kept.alloc _ _)
  have HN : Hid _ := (pnew_long s _ (hG.kept hk1) h hm).mono (R' := fun e w' => ∃ T z, e = thrown (.iface T z) ∧ (fun T z _ => T = 342 ∧ z = Value.pointer (some (A 0))) T z w' ∧ Kept ((w.alloc (.cells #[.nilIface] 107)).alloc (.cells #[.nilIface] 56)) w') (fun e w' ⟨h1, h2⟩ => ⟨_, _, h1, ⟨rfl, rfl⟩, h2⟩)
  refine (pp_throw (fun T z _ => T = 342 ∧ z = Value.pointer (some (A 0))) s w HN).mono ?_
  rintro e w' ⟨T, z, w2, rfl, ⟨rfl, rfl⟩, hK, _⟩
  exact ⟨rfl, hK⟩
set_option maxRecDepth 20000 in
theorem show_err (s : ByteArray) (w : World) (R : TypeId → Value → World → Prop) (HP : Hid (Calls Tryz.prog 46 #[.string s] w fun e w' => ∃ T z, e = .returned (.tuple #[.nilIface, .iface T z]) ∧ Hid (R T z w'))) :
    Calls Tryz.prog 32 #[.string s] w fun e w' => ∃ T z, e = .returned (.tuple #[.string { data := #[] }, .iface T z]) ∧ Hid (R T z w') := by
  go_enter Tryz.func32, Tryz.ntmps32
  go_wp2_with fail
  refine Calls.mono HP.out ?_
  rintro e w1 ⟨T, z, rfl, HR⟩
  clear HP
  go_wp2
  exact bodyPost_ret (v := .tuple #[.string { data := #[] }, .iface T z]) (by simp [results, Tryz.results32, go_sem]) rfl ⟨T, z, rfl, HR⟩
set_option maxRecDepth 20000 in
theorem show_ok (s : ByteArray) (w : World) (x : X) (P : Nat → Prop) (htw : tw x ≤ 1000000) (HP : Hid (Calls Tryz.prog 46 #[.string s] w fun e w' => ∃ v, e = .returned (.tuple #[v, .nilIface]) ∧ PX w' P x v ∧ Kept w w')) :
    Calls Tryz.prog 32 #[.string s] w fun e w' => e = .returned (.tuple #[.string (txt x), .nilIface]) ∧ Kept w w' := by
  go_enter Tryz.func32, Tryz.ntmps32
  go_wp2_with fail
  refine Calls.mono HP.out ?_
  rintro e w1 ⟨v, rfl, hx, hk1⟩
  obtain ⟨T, u, rfl⟩ := hx.iface
  have HS : Hid _ := pshowx_any w1 P x _ hx htw
  clear HP hx
  go_wp2_with fail
  refine Calls.mono HS.out ?_
  rintro e w2 ⟨rfl, hB⟩
  have HK : Hid _ := hk1.trans (Kept.below hB)
  clear HS hB
  go_wp2
  exact bodyPost_ret (v := .tuple #[.string (txt x), .nilIface]) (by simp [results, Tryz.results32, go_sem]) rfl ⟨rfl, HK.out⟩
set_option maxRecDepth 20000 in
set_option maxHeartbeats 2000000 in
theorem pl_show (s : ByteArray) (w : World) (R : ByteArray → Int → Int → Prop) (HP : Hid (Calls Tryz.prog 32 #[.string s] (w.alloc (.cells #[.int .i64 0, .int .i64 0, .string { data := #[] }, .int .i64 0, .int .i64 0] 23)) fun e w' => ∃ t er what loc, e = .returned (.tuple #[.string t, er]) ∧ Kept (w.alloc (.cells #[.int .i64 0, .int .i64 0, .string { data := #[] }, .int .i64 0, .int .i64 0] 23)) w' ∧ Hid (Calls Tryz.prog 22 #[er] w' fun e w'' => e = .returned (faultVal what loc { data := #[] }) ∧ Kept w' w'') ∧ R t what loc)) :
    Calls Tryz.prog 15 #[.string s] w fun e w' => ∃ t what loc, e = .returned (.tuple #[.string t, faultVal what loc { data := #[] }]) ∧ R t what loc ∧ Kept w w' := by
  have hk0 : Kept w (w.alloc (.cells #[.int .i64 0, .int .i64 0, .string { data := #[] }, .int .i64 0, .int .i64 0] 23)) := Kept.alloc _ _
  have hb0 : (w.alloc (.cells #[.int .i64 0, .int .i64 0, .string { data := #[] }, .int .i64 0, .int .i64 0] 23)).heap[w.heap.size]? = some (.cells #[.int .i64 0, .int .i64 0, .string { data := #[] }, .int .i64 0, .int .i64 0] 23 (0, 0)) := heap_alloc_new _ _
  go_enter Tryz.func15, Tryz.ntmps15
  go_wp2_with fail
  refine Calls.mono HP.out ?_
  rintro e w1 ⟨t, er, what, loc, rfl, hk1, HF, hR⟩
  have hb1 := hk1.blk hb0
  have HR : Hid _ := hR
  clear HP hR
  go_wp2_with fail
  refine Calls.mono HF.out ?_
  rintro e w2 ⟨rfl, hk2⟩
  have hb2 := hk2.blk hb1
  have hK := (hk0.trans hk1).trans hk2
  clear HF
  have c0 : w2.cell? ⟨w.heap.size, 0, none⟩ = some (.int .i64 0) := by simp [World.cell?, hb2]
  have c1 : w2.cell? ⟨w.heap.size, 1, none⟩ = some (.int .i64 0) := by simp [World.cell?, hb2]
  have c2 : w2.cell? ⟨w.heap.size, 2, none⟩ = some (.string { data := #[] }) := by simp [World.cell?, hb2]
  have c3 : w2.cell? ⟨w.heap.size, 3, none⟩ = some (.int .i64 0) := by simp [World.cell?, hb2]
  have c4 : w2.cell? ⟨w.heap.size, 4, none⟩ = some (.int .i64 0) := by simp [World.cell?, hb2]
  have f0 : ∀ j, w2.frozen? ⟨w.heap.size, j, none⟩ = false := fun j => by simp [World.frozen?, hb2]
  unfold faultVal
  go_wp2_with fail
  obtain ⟨w5, hw5⟩ : ∃ w5, w5 = ((((w2.setCell ⟨w.heap.size, 0, none⟩ (.int .i64 what)).setCell ⟨w.heap.size, 1, none⟩ (.int .i64 loc)).setCell ⟨w.heap.size, 2, none⟩ (.string { data := #[] })).setCell ⟨w.heap.size, 3, none⟩ (.int .i64 0)).setCell ⟨w.heap.size, 4, none⟩ (.int .i64 0) := ⟨_, rfl⟩
  have hF : w5.heap[w.heap.size]? = some (.cells #[.int .i64 what, .int .i64 loc, .string { data := #[] }, .int .i64 0, .int .i64 0] 23 (0, 0)) := by
    rw [hw5]
    simp [World.setCell, hb2, Array.getElem?_modify]
  have hKF : Kept w w5 := by
    rw [hw5]
    refine ⟨hK.1, hK.2, by simpa using hK.3, fun q hq => ?_⟩
    have e : ∀ (W : World) (j : Nat) (v : Value), (W.setCell ⟨w.heap.size, j, none⟩ v).heap[q]? = W.heap[q]? := fun W j v => Below.heap_setCell _ _ _ q (by intro z; simp at z; omega)
    exact (e _ _ _).trans ((e _ _ _).trans ((e _ _ _).trans ((e _ _ _).trans ((e _ _ _).trans (hK.4 q hq)))))
  rw [← hw5]
  clear hw5
  have d0 : w5.cell? ⟨w.heap.size, 0, none⟩ = some (.int .i64 what) := by simp [World.cell?, hF]
  have d1 : w5.cell? ⟨w.heap.size, 1, none⟩ = some (.int .i64 loc) := by simp [World.cell?, hF]
  have d2 : w5.cell? ⟨w.heap.size, 2, none⟩ = some (.string { data := #[] }) := by simp [World.cell?, hF]
  have d3 : w5.cell? ⟨w.heap.size, 3, none⟩ = some (.int .i64 0) := by simp [World.cell?, hF]
  have d4 : w5.cell? ⟨w.heap.size, 4, none⟩ = some (.int .i64 0) := by simp [World.cell?, hF]
  exact bodyPost_ret (v := .tuple #[.string t, faultVal what loc { data := #[] }]) (by simp [results, Tryz.results15, go_sem, faultVal, d0, d1, d2, d3, d4]) rfl ⟨t, what, loc, rfl, HR.out, hKF⟩
/-- plain.Show, against the document's reader. -/
theorem plshow_any {A : Nat → Addr} {s : ByteArray} {L : List Tk} (hE : PEnv s wordsL L) (w : World) (hG : Glb A w) (n : Nat) (x : X) (K : Nat) (B : Int) (hM : expM L n 0 (-1) = some (x, K, B)) (htw : needB L { data := #[101, 110, 100] } K B < 0 → tw x ≤ 1000000) :
    Calls Tryz.prog 15 #[.string s] w fun e w' => Kept w w' ∧
      (0 ≤ needB L { data := #[101, 110, 100] } K B → e = .returned (.tuple #[.string { data := #[] }, faultVal 2 (needB L { data := #[101, 110, 100] } K B) { data := #[] }])) ∧
      (needB L { data := #[101, 110, 100] } K B < 0 → 40 < dp x → e = .returned (.tuple #[.string { data := #[] }, faultVal 3 0 { data := #[] }])) ∧
      (needB L { data := #[101, 110, 100] } K B < 0 → dp x ≤ 40 → e = .returned (.tuple #[.string (txt x), faultVal 0 0 { data := #[] }])) := by
  have hk0 : Kept w (w.alloc (.cells #[.int .i64 0, .int .i64 0, .string { data := #[] }, .int .i64 0, .int .i64 0] 23)) := Kept.alloc _ _
  have hG0 := hG.kept hk0
  generalize hW : w.alloc (.cells #[.int .i64 0, .int .i64 0, .string { data := #[] }, .int .i64 0, .int .i64 0] 23) = W at *
  have HP := pparse_any hE W hG0 n x K B hM
  have key : Calls Tryz.prog 32 #[.string s] W fun e w' => ∃ t er what loc, e = .returned (.tuple #[.string t, er]) ∧ Kept W w' ∧ Hid (Calls Tryz.prog 22 #[er] w' fun e w'' => e = .returned (faultVal what loc { data := #[] }) ∧ Kept w' w'') ∧ ((0 ≤ needB L { data := #[101, 110, 100] } K B → t = { data := #[] } ∧ what = 2 ∧ loc = needB L { data := #[101, 110, 100] } K B) ∧ (needB L { data := #[101, 110, 100] } K B < 0 → 40 < dp x → t = { data := #[] } ∧ what = 3 ∧ loc = 0) ∧ (needB L { data := #[101, 110, 100] } K B < 0 → dp x ≤ 40 → t = txt x ∧ what = 0 ∧ loc = 0)) := by
    by_cases hF : 0 ≤ needB L { data := #[101, 110, 100] } K B
    · have h1 := show_err s W (fun T z w' => Kept W w' ∧ ∃ b l : Nat, needB L { data := #[101, 110, 100] } K B = l ∧ T = 83 ∧ z = .pointer (some ⟨b, 0, none⟩) ∧ w'.heap[b]? = some (.cells #[.int .i64 l] 94 (0, 0))) (HP.mono (fun e w' hp => by
        rcases hp.2 with ⟨b, l, e1, e2, e3⟩ | ⟨e1, _⟩ | ⟨e1, _⟩
        · exact ⟨_, _, e2, hp.1, b, l, e1, rfl, rfl, e3⟩
        · omega
        · omega))
      refine h1.mono ?_
      rintro e w' ⟨T, z, rfl, hR⟩
      obtain ⟨hK, b, l, e1, rfl, rfl, e3⟩ := hR.out
      refine ⟨{ data := #[] }, _, 2, l, rfl, hK, ?_, fun _ => ⟨rfl, rfl, e1.symm⟩, fun q => absurd hF (by omega), fun q => absurd hF (by omega)⟩
      exact (fault_syn w' (hG0.kept hK) ⟨b, 0, none⟩ l (by simp [World.cell?, e3])).mono (fun e w'' ⟨a1, a2⟩ => ⟨a1, Kept.below a2⟩)
    · by_cases hd : 40 < dp x
      · have h1 := show_err s W (fun T z w' => Kept W w' ∧ T = 342 ∧ z = .pointer (some (A 1))) (HP.mono (fun e w' hp => by
          rcases hp.2 with ⟨b, l, e1, _⟩ | ⟨_, _, e2⟩ | ⟨_, e2, _⟩
          · omega
          · exact ⟨_, _, e2, hp.1, rfl, rfl⟩
          · omega))
        refine h1.mono ?_
        rintro e w' ⟨T, z, rfl, hR⟩
        obtain ⟨hK, rfl, rfl⟩ := hR.out
        exact ⟨{ data := #[] }, _, 3, 0, rfl, hK, fault_sen w' (hG0.kept hK) 1 (by omega), fun q => absurd q hF, fun _ _ => ⟨rfl, rfl, rfl⟩, fun _ q => absurd q (by omega)⟩
      · have h1 := show_ok s W x (fun b => W.heap.size ≤ b) (htw (by omega)) (HP.mono (fun e w' hp => by
          rcases hp.2 with ⟨b, l, e1, _⟩ | ⟨_, e2, _⟩ | ⟨_, _, v, e2, e3⟩
          · omega
          · omega
          · exact ⟨v, e2, e3, hp.1⟩))
        refine h1.mono ?_
        rintro e w' ⟨rfl, hK⟩
        exact ⟨txt x, _, 0, 0, rfl, hK, (fault_nil w').mono (fun e w'' ⟨a1, a2⟩ => ⟨a1, Kept.below a2⟩), fun q => absurd q hF, fun _ q => absurd q hd, fun _ _ => ⟨rfl, rfl, rfl⟩⟩
  have := pl_show s w (fun t what loc => (0 ≤ needB L { data := #[101, 110, 100] } K B → t = { data := #[] } ∧ what = 2 ∧ loc = needB L { data := #[101, 110, 100] } K B) ∧ (needB L { data := #[101, 110, 100] } K B < 0 → 40 < dp x → t = { data := #[] } ∧ what = 3 ∧ loc = 0) ∧ (needB L { data := #[101, 110, 100] } K B < 0 → dp x ≤ 40 → t = txt x ∧ what = 0 ∧ loc = 0)) (by rw [hW]; exact key)
  refine this.mono ?_
  rintro e w' ⟨t, what, loc, rfl, ⟨h1, h2, h3⟩, hK⟩
  refine ⟨hK, fun q => ?_, fun q q2 => ?_, fun q q2 => ?_⟩
  · obtain ⟨rfl, rfl, rfl⟩ := h1 q; rfl
  · obtain ⟨rfl, rfl, rfl⟩ := h2 q q2; rfl
  · obtain ⟨rfl, rfl, rfl⟩ := h3 q q2; rfl
theorem plshow_long {A : Nat → Addr} (s : ByteArray) (w : World) (hG : Glb A w) (h : 300 < s.size) (hm : s.size ≤ 9223372036854775807) :
    Calls Tryz.prog 15 #[.string s] w fun e w' => e = .returned (.tuple #[.string { data := #[] }, faultVal 1 0 { data := #[] }]) ∧ Kept w w' := by
  have hk0 : Kept w (w.alloc (.cells #[.int .i64 0, .int .i64 0, .string { data := #[] }, .int .i64 0, .int .i64 0] 23)) := Kept.alloc _ _
  have hG0 := hG.kept hk0
  generalize hW : w.alloc (.cells #[.int .i64 0, .int .i64 0, .string { data := #[] }, .int .i64 0, .int .i64 0] 23) = W at *
  have h1 := show_err s W (fun T z w' => Kept W w' ∧ T = 342 ∧ z = .pointer (some (A 0))) ((pparse_long s W hG0 h hm).mono (fun e w' ⟨e1, e2⟩ => ⟨_, _, e1, e2, rfl, rfl⟩))
  have key : Calls Tryz.prog 32 #[.string s] W fun e w' => ∃ t er what loc, e = .returned (.tuple #[.string t, er]) ∧ Kept W w' ∧ Hid (Calls Tryz.prog 22 #[er] w' fun e w'' => e = .returned (faultVal what loc { data := #[] }) ∧ Kept w' w'') ∧ (t = { data := #[] } ∧ what = 1 ∧ loc = 0) := by
    refine h1.mono ?_
    rintro e w' ⟨T, z, rfl, hR⟩
    obtain ⟨hK, rfl, rfl⟩ := hR.out
    exact ⟨{ data := #[] }, _, 1, 0, rfl, hK, fault_sen w' (hG0.kept hK) 0 (by omega), rfl, rfl, rfl⟩
  refine (pl_show s w (fun t what loc => t = { data := #[] } ∧ what = 1 ∧ loc = 0) (by rw [hW]; exact key)).mono ?_
  rintro e w' ⟨t, what, loc, rfl, ⟨rfl, rfl, rfl⟩, hK⟩
  exact ⟨rfl, hK⟩
end Go.Proofs.YtleenphlgbklmabGreatDoor

namespace Go.Proofs.YtleenphlgbklmabGreatDoor
open Go.RowKit

set_option maxRecDepth 20000 in
theorem catchY_idle (p q : Addr) (w : World) :
    CallsD Tryz.prog 70 #[.pointer (some p), .pointer (some q)] .returning w fun e u' w' => e = .returned (.tuple #[]) ∧ u' = .returning ∧ w' = w := by
  refine callsD_of_wpS Tryz.func70 rfl fun c₀ cs hu => ?_
  apply wpS_seq
  apply wpS_region
  simp [wpOpsS, go_sem, recoverD, hu, Tryz.ntmps70, Exit.thenS]
  refine wpS_of_wp ?_
  show Code.wp _ _ _ ⟨#[.pointer (some p), .pointer (some q), .nilIface, .nilIface, undef, undef, undef, undef], []⟩ w
  go_wp2
  cases c₀
  simp_all [bodyPostS, results, Tryz.results70]
/-- what a text is as an expression. -/
def exO (s : ByteArray) : Option X :=
  if 300 < s.size then none
  else match expM (toksF s wordsL (s.size + 1) 0) 2000 0 (-1) with
    | none => none
    | some (x, K, B) => if 0 ≤ needB (toksF s wordsL (s.size + 1) 0) { data := #[101, 110, 100] } K B then none else if 40 < dp x then none else some x
theorem ex_good {A : Nat → Addr} {s : ByteArray} {x : X} (hr : exO s = some x) (w : World) (hG : Glb A w) :
    Calls Tryz.prog 46 #[.string s] w fun e w' => Kept w w' ∧ ∃ T u, e = .returned (.tuple #[.iface T u, .nilIface]) ∧ PX w' (fun _ => True) x (.iface T u) := by
  unfold exO at hr
  by_cases hs : 300 < s.size
  · rw [if_pos hs] at hr
    cases hr
  · rw [if_neg hs] at hr
    have hE : PEnv s wordsL (toksF s wordsL (s.size + 1) 0) := ⟨by omega, wordsOk, rfl⟩
    cases hM : expM (toksF s wordsL (s.size + 1) 0) 2000 0 (-1) with
    | none => rw [hM] at hr; cases hr
    | some q =>
      obtain ⟨x', K, B⟩ := q
      rw [hM] at hr
      simp only at hr
      split at hr
      · cases hr
      · rename_i hF
        split at hr
        · cases hr
        · rename_i hd
          simp only [Option.some.injEq] at hr
          subst hr
          refine (pparse_any hE w hG _ x' K B hM).mono ?_
          rintro e w' ⟨hk, h⟩
          rcases h with ⟨b, l, e1, _⟩ | ⟨_, e2, _⟩ | ⟨_, _, v, e2, e3⟩
          · omega
          · omega
          · obtain ⟨T, u, rfl⟩ := e3.iface
            exact ⟨hk, T, u, e2, e3.mono (fun _ _ _ => trivial)⟩
/-- what stood in a cell is laid there again. -/
theorem Kept.again {w : World} {b : Nat} {v : Value} {e : TypeId} (hb : w.heap[b]? = some (.cells #[v] e (0, 0))) : Kept w (w.setCell ⟨b, 0, none⟩ v) := ⟨rfl, rfl, by simp, fun k hk => by
  by_cases z : k = b
  · subst z
    rw [hb]
    simp [World.setCell, hb, Array.getElem?_modify]
  · exact Below.heap_setCell _ _ _ k z⟩
/-- without a watcher nothing is to be kept. -/
def KN : World → Unit → Prop := fun _ _ => True
theorem KN.ok : KOk KN := fun _ _ _ _ _ _ => trivial
theorem Kw.keptBy {w w5 w6 : World} {ad : List Nat} (h : Kept w w5) (k : Kw w.heap.size ad w5 w6) (had : ∀ a, a ∈ ad → w.heap.size ≤ a) : Kept w w6 := ⟨k.os.trans h.os, k.output.trans h.output, Nat.le_trans h.size k.size, fun q hq => by
  have e : w5.heap[q]? = some (w5.heap[q]'(Nat.lt_of_lt_of_le hq h.size)) := by simp
  rw [← h.block q hq, e]
  exact k.blk q _ e (fun _ => hq) (fun _ z => by have := had q z; omega)⟩
/-- how typeOfText ends. -/
def TtO (A : Nat → Addr) (w : World) (e : Ending) (w' : World) : Option (Nat × ByteArray) → Oc (TR × St) → Prop
  | some q, _ => ∃ b, e = .returned (.tuple #[.nilIface, .iface 84 (.pointer (some ⟨b, 0, none⟩))]) ∧ w'.heap[b]? = some (.cells #[.int .i64 q.1, .string q.2] 97 (0, 0))
  | none, .er j => e = .returned (.tuple #[.nilIface, .iface 342 (.pointer (some (A j)))])
  | none, .ok q => ∃ T u ad, e = .returned (.tuple #[.iface T u, .nilIface]) ∧ RV ad q.1 (.iface T u) ∧ SX w' ad q.2 ∧ ∀ a, a ∈ ad → w.heap.size ≤ a
end Go.Proofs.YtleenphlgbklmabGreatDoor

namespace Go.Proofs.YtleenphlgbklmabGreatDoor
open Go.RowKit

theorem treeF_dn : ∀ (n : Nat) {σ : St} {r : TR} {t : Ty}, treeF n σ r = some t → Dn σ r t := by
  intro n
  induction n with
  | zero => intro σ r t h; simp [treeF] at h
  | succ n ih =>
    intro σ r t h
    simp only [treeF, Option.bind_eq_some_iff] at h
    obtain ⟨r0, hr, h⟩ := h
    have hr := repF_rp _ hr
    cases r0 with
    | int => simp only [Option.some.injEq] at h; subst h; exact .int r hr
    | bool => simp only [Option.some.injEq] at h; subst h; exact .bool r hr
    | nd k i =>
      obtain ⟨nk, rfl, hi⟩ := hr.rt
      simp only [hi] at h
      cases nk with
      | vr nm g => simp only [Option.some.injEq] at h; subst h; exact .var r i hr
      | ls x =>
        simp only [Option.bind_eq_some_iff, Option.some.injEq] at h
        obtain ⟨a, ha, rfl⟩ := h
        exact .list r i x a hr hi (ih ha)
      | pr x y =>
        simp only [Option.bind_eq_some_iff, Option.some.injEq] at h
        obtain ⟨a, ha, c, hc, rfl⟩ := h
        exact .pair r i x y a c hr hi (ih ha) (ih hc)
      | ar x y =>
        simp only [Option.bind_eq_some_iff, Option.some.injEq] at h
        obtain ⟨a, ha, c, hc, rfl⟩ := h
        exact .fn r i x y a c hr hi (ih ha) (ih hc)
set_option maxRecDepth 20000 in
theorem watch_err (s : ByteArray) (em : Nat) (fl : Int) (w : World) (R : TypeId → Value → World → Prop) (HP : Hid (Calls Tryz.prog 45 #[.agg #[.int .i64 fl, .nilFunc], .string s, .map (some em)] w fun e w' => ∃ T z, e = .returned (.tuple #[.nilIface, .iface T z]) ∧ Hid (R T z w'))) :
    Calls Tryz.prog 27 #[.string s, .map (some em), .int .i64 fl, .nilFunc] w fun e w' => ∃ T z, e = .returned (.tuple #[.string { data := #[] }, .iface T z]) ∧ Hid (R T z w') := by
  go_enter Tryz.func27, Tryz.ntmps27
  go_wp2_with fail
  refine Calls.mono HP.out ?_
  rintro e w1 ⟨T, z, rfl, HR⟩
  clear HP
  go_wp2
  exact bodyPost_ret (v := .tuple #[.string { data := #[] }, .iface T z]) (by simp [results, Tryz.results27, go_sem]) rfl ⟨T, z, rfl, HR⟩
set_option maxRecDepth 20000 in
theorem watch_ok (s : ByteArray) (em : Nat) (fl : Int) (w : World) (t : Ty) (hs : sz t ≤ 120) (HP : Hid (Calls Tryz.prog 45 #[.agg #[.int .i64 fl, .nilFunc], .string s, .map (some em)] w fun e w' => ∃ v ad σ r, e = .returned (.tuple #[v, .nilIface]) ∧ SX w' ad σ ∧ RV ad r v ∧ Dn σ r t ∧ (∀ c, c ∈ ad → w.heap.size ≤ c) ∧ Kept w w')) :
    Calls Tryz.prog 27 #[.string s, .map (some em), .int .i64 fl, .nilFunc] w fun e w' => e = .returned (.tuple #[.string (canT t), .nilIface]) ∧ Kept w w' := by
  go_enter Tryz.func27, Tryz.ntmps27
  go_wp2_with fail
  refine Calls.mono HP.out ?_
  rintro e w1 ⟨v, ad, σ, r, rfl, hx, hv, hd, hA, hk1⟩
  have HN : Hid _ := pnio_any w1
  have HS : Hid (∀ w2 nb mb, w2.heap[nb]? = some (.cells #[.map (some mb)] 123 (0, 0)) → NM w2 mb [] → Kp (fun _ => False) w1 w2 → Calls Tryz.prog 36 #[v, .func (.func 57) #[] #[.pointer (some ⟨nb, 0, none⟩)]] w2 fun e w' => e = .returned (.string (canT t)) ∧ SX w' ad σ ∧ Kt ad (· = mb) w2 w') := fun w2 nb mb h1 h2 h3 => show_num w2 nb mb ad σ r t v (hx.keep (fun _ _ _ ho => h3.blk ho id)) hv hd (by omega) h1 (by have := h2.mp; simpa [nFrom] using this)
  obtain ⟨T, u, rfl⟩ := hv.iface
  have HK1 : Hid _ := hk1
  clear HP hx hv hd hk1
  go_wp2_with fail
  refine Calls.mono HN.out ?_
  rintro e w2 ⟨nb, mb, rfl, hb2, hm2, hk2, hmb⟩
  have HS2 : Hid _ := HS.out w2 nb mb hb2 hm2 hk2
  clear HN HS hb2 hm2
  go_wp2_with fail
  refine Calls.mono HS2.out ?_
  rintro e w3 ⟨rfl, _, hk3⟩
  have HKF : Hid (Kept w w3) := Kt.keptFrom (HK1.out.trans (Kept.of0 hk2)) hk3 (fun q hq z => by
    have z : q = mb := z
    have := HK1.out.size
    omega) hA
  clear HS2 hk3 hk2 HK1
  go_wp2
  exact bodyPost_ret (v := .tuple #[.string (canT t), .nilIface]) (by simp [results, Tryz.results27, go_sem]) rfl ⟨rfl, HKF.out⟩
set_option maxRecDepth 20000 in
theorem infer_del (s : ByteArray) (em : Nat) (fl : Int) (w : World) (R : Value → World → Prop) (HP : Hid (Calls Tryz.prog 27 #[.string s, .map (some em), .int .i64 fl, .nilFunc] w fun e w' => ∃ a b, e = .returned (.tuple #[a, b]) ∧ R (.tuple #[a, b]) w')) :
    Calls Tryz.prog 30 #[.string s, .map (some em), .int .i64 fl] w fun e w' => ∃ v, e = .returned v ∧ R v w' := by
  go_enter Tryz.func30, Tryz.ntmps30
  go_wp2_with fail
  refine Calls.mono HP.out ?_
  rintro e w1 ⟨a, b, rfl, hR⟩
  have HR : Hid _ := hR
  clear HP hR
  go_wp2
  exact bodyPost_ret (v := .tuple #[a, b]) (by simp [results, Tryz.results30, go_sem]) rfl ⟨_, rfl, HR.out⟩
end Go.Proofs.YtleenphlgbklmabGreatDoor

namespace Go.Proofs.YtleenphlgbklmabGreatDoor
open Go.RowKit

/-- a list of texts lies in memory. -/
def RowS (w : World) (v : Value) (l : List ByteArray) : Prop := ∃ ao cap g, v = .slice ao l.length cap ∧ ∀ (q : Nat) (x : ByteArray), l[q]? = some x → ao = some ⟨g, 0, none⟩ ∧ ∃ cs, w.heap[g]? = some (.cells cs 9 (0, 0)) ∧ cs[q]? = some (.string x)
theorem RowS.kept {w w' : World} {v : Value} {l : List ByteArray} (h : RowS w v l) (k : Kept w w') : RowS w' v l := by
  obtain ⟨ao, cap, g, h1, h2⟩ := h
  exact ⟨ao, cap, g, h1, fun q x hx => by
    obtain ⟨e1, cs, e2, e3⟩ := h2 q x hx
    exact ⟨e1, cs, k.blk e2, e3⟩⟩
theorem Tryz.mkT (w : World) : (Instr.makeMap 60 none).run Tryz.prog w = .ok (.map (some w.heap.size)) (w.alloc (.map #[] 0)) := by kernel_rfl
set_option maxRecDepth 20000 in
set_option maxHeartbeats 4000000 in
theorem env_sx {w : World} {kv : List (ByteArray × ByteArray)} {nv tv : Value} (hn : RowS w nv (kv.map Prod.fst)) (ht : RowS w tv (kv.map Prod.snd)) (hd : (kv.map Prod.fst).Nodup) (hl : kv.length ≤ 1000) :
    Calls Tryz.prog 26 #[nv, tv] w fun e w' => ∃ mb, e = .returned (.map (some mb)) ∧ SM w' mb kv ∧ Kept w w' ∧ w.heap.size ≤ mb := by
  obtain ⟨ao, cap, g, rfl, hr⟩ := hn
  obtain ⟨ao2, cap2, g2, rfl, hr2⟩ := ht
  have m1 := Tryz.mkT w
  have hk0 : Kept w (w.alloc (.map #[] 0)) := Kept.alloc _ _
  have hm0 := heap_alloc_new w (.map #[] 0)
  rw [List.length_map, List.length_map]
  go_enter Tryz.func26, Tryz.ntmps26
  go_wp2_with fail
  generalize w.alloc (.map #[] 0) = W at *
  have HR : Hid _ := hr
  have HR2 : Hid _ := hr2
  have HK0 : Hid _ := hk0
  have HD : Hid _ := hd
  have HM0 : Hid _ := hm0
  clear hr hr2 hk0 hm0 m1 hd
  go_loopw [10] (fun i wr => ∃ q : Nat, q ≤ kv.length ∧ i = .int .i64 q ∧ Hid (SM wr w.heap.size (kv.take q)) ∧ Hid (Kt [] (fun q => q = w.heap.size) W wr)) (fun i _ => kv.length - (intOf i).toNat)
  case atStart => exact ⟨0, Nat.zero_le _, rfl, ⟨HM0.out, by simp⟩, Kt.refl _ _ _⟩
  case round =>
    clear HM0
    obtain ⟨q, hq, rfl, HS, HT⟩ := hrel
    by_cases hlt : q < kv.length
    · obtain ⟨⟨n, ty⟩, hy⟩ : ∃ y, kv[q]? = some y := ⟨kv[q], by simp [hlt]⟩
      obtain ⟨rfl, cs, hg, hcq⟩ := HR.out q n (by rw [List.getElem?_map, hy]; rfl)
      obtain ⟨rfl, cs2, hg2, hcq2⟩ := HR2.out q ty (by rw [List.getElem?_map, hy]; rfl)
      have tk : kv.take (q + 1) = kv.take q ++ [(n, ty)] := by
        rw [List.take_succ_eq_append_getElem hlt]
        congr 2
        rw [List.getElem?_eq_getElem hlt] at hy
        simpa using hy
      have hkd : Kt [] (fun q => q = w.heap.size) W wr.drew := HT.out.trans (Kt.of_kept (Kept.drew wr))
      have nt : ∀ (cs : Array Value), ¬ TB (.cells cs 9 (0, 0)) := by
        rintro cs ⟨cs', e, f, he, ht⟩
        simp only [Obj.cells.injEq] at he
        obtain ⟨_, rfl, _⟩ := he
        rcases ht with e | e | e | e <;> cases e
      have hgl := lt_of_block hg
      have hgl2 := lt_of_block hg2
      have hgr := hkd.blk g _ (HK0.out.blk hg) (by show ¬ g = w.heap.size; omega) (nt _)
      have hgr2 := hkd.blk g2 _ (HK0.out.blk hg2) (by show ¬ g2 = w.heap.size; omega) (nt _)
      have c1 : wr.drew.cell? ⟨g, q, none⟩ = some (.string n) := by simp [World.cell?, hgr, hcq]
      have c2 : wr.drew.cell? ⟨g2, q, none⟩ = some (.string ty) := by simp [World.cell?, hgr2, hcq2]
      have hSd : SM wr.drew w.heap.size (kv.take q) := ⟨(Kept.drew wr).blk HS.out.mp, HS.out.nd⟩
      have hfi : (kv.take q).findIdx? (fun x => sameS x.1 n) = none := by
        rw [List.findIdx?_eq_none_iff]
        intro x hx
        rw [Bool.eq_false_iff]
        intro z
        have z := (sameS_iff _ _).1 z
        have hnd : (kv.map Prod.fst).Nodup := HD.out
        have e : kv.map Prod.fst = (kv.take q).map Prod.fst ++ (kv.drop q).map Prod.fst := by rw [← List.map_append, List.take_append_drop]
        rw [e, List.nodup_append] at hnd
        have h3 : n ∈ (kv.drop q).map Prod.fst := by
          rw [List.drop_eq_getElem_cons hlt]
          rw [List.getElem?_eq_getElem hlt] at hy
          simp only [Option.some.injEq] at hy
          simp [hy]
        exact hnd.2.2 x.1 (List.mem_map_of_mem hx) n h3 z
      obtain ⟨w6, hput, hS6, hK6⟩ : ∃ w6, (Instr.mapUpdate 60 (.map (some w.heap.size)) (.string n) (.agg #[.string ty])).run Tryz.prog wr.drew = .ok () w6 ∧ SM w6 w.heap.size (kv.take q ++ [(n, ty)]) ∧ Kt [] (fun q => q = w.heap.size) wr.drew w6 := ⟨_, run_tput 60 Tryz.underlying60 wr.drew w.heap.size (kv.take q) n ty hSd hfi, hSd.put n ty hfi, Kt.mapset hSd.mp _⟩
      rw [← tk] at hS6
      have hg6 := hK6.blk g _ hgr (by show ¬ g = w.heap.size; omega) (nt _)
      have hg62 := hK6.blk g2 _ hgr2 (by show ¬ g2 = w.heap.size; omega) (nt _)
      have c3 : w6.cell? ⟨g, q, none⟩ = some (.string n) := by simp [World.cell?, hg6, hcq]
      have c4 : w6.cell? ⟨g2, q, none⟩ = some (.string ty) := by simp [World.cell?, hg62, hcq2]
      have HS6 : Hid _ := hS6
      have HK6 : Hid _ := hkd.trans hK6
      clear hSd hfi hK6 hkd hgr hgr2 hg hg2 hcq hcq2 hy nt tk HS HT hgl hgl2 hS6 hg6 hg62
      go_wp2_with fail
      go_region_held3 (fun w' => w'.cell? ⟨g, q, none⟩ = some (.string n) ∧ w'.cell? ⟨g2, q, none⟩ = some (.string ty)) (go_keep) (fail)
      all_goals
        go_wp2
        go_roundw
        case measure => simp [intOf]; omega
        case rel => exact ⟨q + 1, hlt, by go_num, HS6.out, HK6.out⟩
    · have hqe : q = kv.length := by omega
      subst hqe
      have HF : Hid (SM wr w.heap.size kv) := by have := HS.out; rwa [List.take_length] at this
      have HKF : Hid (Kept w wr) := Kt.keptBy HK0.out HT.out (fun q z => by have z : q = w.heap.size := z; omega)
      clear HS HT HR HR2
      go_wp2
      go_ret
      exact ⟨_, rfl, HF.out, HKF.out, Nat.le_refl _⟩
end Go.Proofs.YtleenphlgbklmabGreatDoor
