import Derived.Test.YtleenphlgbklmaaGreatDoorQPWz
set_option linter.unusedVariables false
set_option linter.unusedSimpArgs false
namespace Go.Proofs.YtleenphlgbklmaaGreatDoor
open Go.RowKit

theorem txt_rec (names : List ByteArray) (kids : List X) (y : X) (loc : Nat) (h : names.length = kids.length) : txt (.mk { data := #[114, 101, 99] } names (kids ++ [y]) loc) = letT ({ data := #[108, 101, 116, 32] } ++ { data := #[114, 101, 99, 32] }) names (txts (kids ++ [y])) names.length ++ { data := #[32, 105, 110, 32] } ++ txt y := by
  rw [txt, if_neg (bne_of (by decide)), if_neg (bne_of (by decide)), if_neg (bne_of (by decide)), if_neg (bne_of (by decide)), if_neg (bne_of (by decide)), if_pos rfl, txts_get _ _ (by simp; omega), h]
  simp [List.getD]
/-- what the loop has written behind so many bindings: all but the blank at the end. -/
def recT (names : List ByteArray) (ts : List ByteArray) : Nat → ByteArray
  | 0 => { data := #[108, 101, 116] } ++ { data := #[32] } ++ { data := #[114, 101, 99] }
  | q + 1 => recT names ts q ++ (if 0 < q then { data := #[32] } ++ { data := #[97, 110, 100] } else { data := #[] }) ++ { data := #[32] } ++ names.getD q { data := #[] } ++ { data := #[32, 61, 32] } ++ ts.getD q { data := #[] }
theorem letT_rec (names ts : List ByteArray) : ∀ q, letT ({ data := #[108, 101, 116, 32] } ++ { data := #[114, 101, 99, 32] }) names ts (q + 1) = recT names ts (q + 1) := by
  intro q
  induction q with
  | zero =>
    simp only [letT, recT, Nat.lt_irrefl, if_false]
    apply bytes_ext
    simp only [bytes_app, List.append_assoc, List.cons_append, List.nil_append]
  | succ q ih =>
    rw [letT, recT, if_pos (by omega), if_pos (by omega), ih]
    apply bytes_ext
    simp only [bytes_app, List.append_assoc, List.cons_append, List.nil_append]
set_option maxRecDepth 20000 in
set_option maxHeartbeats 1000000 in
theorem wrec (names : List ByteArray) (kids : List X) (y : X) (loc : Nat) (ihk : ∀ x, x ∈ kids → SWX x) (ihy : SWX y) (w : World) (P : Nat → Prop) (B b xb : Nat) (last : ByteArray) (bs : List Value) (d nv vv q : Value) (ps : List Value) (hN : names ≠ []) (hWd : ∀ m, m ∈ names → Wd m)
    (hb : w.heap[xb]? = some (.cells #[d, nv, vv, q] 341 (0, 0))) (hn : w.ownsRow 0 9 1 nv names.length (names.map Value.string)) (hv : w.ownsRow 0 130 1 vv ps.length ps) (hl : ps.length = kids.length) (hl2 : names.length = kids.length) (hk : ∀ (j : Nat) (x : X) (p : Value), kids[j]? = some x → ps[j]? = some p → PX w P x p) (hy : PX w P y q) (hW : BW 187 w B b (.string last) bs) (hlen : bs.length + ((names.map fun s => s.size + 16).sum + (tws kids + (tw y + 16)) + 16) + 1 ≤ 10000000) :
    Calls Tryz.prog 137 #[.pointer (some ⟨b, 0, none⟩), .pointer (some ⟨xb, 0, none⟩)] w fun e w' => e = .returned (.tuple #[]) ∧ ∃ last', opn last' = false ∧ BW 187 w' B b (.string last') (bs ++ Lib.strCells (pre last ++ txt (.mk { data := #[114, 101, 99] } names (kids ++ [y]) loc))) ∧ KB B b w w' := by
  rw [txt_rec names kids y loc hl2]
  obtain ⟨T, u, rfl⟩ := hy.iface
  have hn' : w.ownsRow 0 9 1 nv (names.map Value.string).length (names.map Value.string) := by rw [List.length_map]; exact hn
  obtain ⟨ao, cap, rfl, hrn⟩ := row_form hn'
  obtain ⟨av, cav, rfl, hrv⟩ := row_form hv
  rw [List.length_map] at hrn hb
  have hml : names.length ≤ 9223372036854775807 := by
    rcases hn.2 with ⟨e1, e2⟩ | ⟨g, c', cur, e1, _, _, e4, e5, _⟩
    · omega
    · unfold maxLen at e5; omega
  have hn1 : 1 ≤ names.length := by cases names with | nil => exact absurd rfl hN | cons a l => simp
  have HL : Hid (ps.length = kids.length) := hl
  have HL2 : Hid (names.length = kids.length) := hl2
  rw [hl.trans hl2.symm] at hb hrv
  clear hl hl2
  go_enter Tryz.func137, Tryz.ntmps137
  go_wp2_with fail
  refine Calls.mono (tk2 hW { data := #[108, 101, 116] } { data := #[114, 101, 99] } 8 (by decide) (by omega)) ?_
  rintro e w1 ⟨rfl, bs1, E1, n1, hW1, hk1⟩
  have hb1 := (hk1.xk hW) _ _ _ _ (by decide) hb
  have c1 : w1.cell? ⟨xb, 1, none⟩ = some (.slice ao names.length cap) := by simp [World.cell?, hb1]
  go_wp2_with fail
  have HK1 : Hid (bs1 = bs ++ Lib.strCells (pre last ++ recT names (txts (kids ++ [y])) 0)) := by
    show _ = _
    rw [E1.out, sep_wd (t := { data := #[108, 101, 116] }) rfl, sep_wd (t := { data := #[114, 101, 99] }) rfl, pre_wd (t := { data := #[108, 101, 116] }) rfl]
    congr 2
    apply bytes_ext
    simp only [recT, bytes_app, List.append_assoc, List.cons_append, List.nil_append]
  clear E1 hn
  go_loopw [14] (fun i wr => KB B b w wr ∧ ∃ j : Nat, j ≤ names.length ∧ i = .int .i64 j ∧ ∃ l bsr, opn l = false ∧ BW 187 wr B b (.string l) bsr ∧ Hid (bsr = bs ++ Lib.strCells (pre last ++ recT names (txts (kids ++ [y])) j)) ∧ bsr.length ≤ bs.length + 8 + ((names.take j).map fun s => s.size + 16).sum + tws (kids.take j)) (fun i _ => names.length - (intOf i).toNat)
  case atStart => exact ⟨hk1, 0, Nat.zero_le _, rfl, { data := #[114, 101, 99] }, bs1, rfl, hW1, HK1, by simp [tws]; omega⟩
  case round =>
    obtain ⟨hkr, j, hj, rfl, l, bsr, ol, hWr, EB, nb⟩ := hrel
    have xk := hkr.xk hW
    have hsl := sum_take names j
    have htl := tws_take kids j
    have hbr := xk _ _ _ _ (by decide) hb
    by_cases hlt : j < names.length
    · have hjk : j < kids.length := by rw [← HL2.out]; exact hlt
      have hjp : j < ps.length := by rw [HL.out]; exact hjk
      obtain ⟨g, rfl, _⟩ := hrn j hlt
      obtain ⟨gv, rfl, _⟩ := hrv j hlt
      have cn : wr.cell? ⟨g, j, none⟩ = some (.string names[j]) := by
        obtain ⟨ao', cap', e, hr⟩ := row_form (xk.row (by decide) hn')
        cases e
        obtain ⟨g', e2, hc⟩ := hr j (by rw [List.length_map]; exact hlt)
        cases e2
        rw [hc]
        simp [hlt]
      have hpx := hk j kids[j] ps[j] (by simp [hjk]) (by simp [hjp])
      obtain ⟨T2, u2, hTu⟩ := hpx.iface
      have HC : Hid (∀ w3, KB B b w w3 → w3.cell? ⟨gv, j, none⟩ = some (.iface T2 u2)) := fun w3 hk3 => by
        obtain ⟨ao', cap', e, hr⟩ := row_form ((hk3.xk hW).row (by decide) hv)
        cases e
        obtain ⟨g', e2, hc⟩ := hr j hjp
        cases e2
        rw [hc, List.getElem?_eq_getElem hjp, hTu]
      rw [hTu] at hpx
      have ihx := ihk kids[j] (List.getElem_mem hjk)
      have hwd := hWd names[j] (List.getElem_mem hlt)
      have HG1 : Hid ((names.getD j { data := #[] }) = names[j]) := by show _ = _; simp [List.getD, hlt]
      have HG2 : Hid ((kids.getD j X.none) = kids[j]) := by show _ = _; simp [List.getD, hjk]
      have hts : (txts (kids ++ [y])).getD j { data := #[] } = txt kids[j] := by
        rw [txts_get _ _ (by simp; omega)]
        congr 1
        simp [List.getD, List.getElem?_append_left hjk, hjk]
      have HST : Hid (recT names (txts (kids ++ [y])) (j + 1) = recT names (txts (kids ++ [y])) j ++ (if 0 < j then { data := #[32] } ++ { data := #[97, 110, 100] } else { data := #[] }) ++ { data := #[32] } ++ names[j] ++ { data := #[32, 61, 32] } ++ txt kids[j]) := by
        show _ = _
        rw [recT, HG1.out, hts]
      have hs1 := sum_take names (j + 1)
      rw [sum_take_succ names j hlt, HG1.out] at hs1
      have hs2 := tws_take kids (j + 1)
      rw [tws_take_succ kids j hjk, HG2.out] at hs2
      clear hts hTu hrn hrv hk hWd ihk hn' hv xk hW1 c1 hb1
      generalize names[j] = nm at *
      generalize kids[j] = x at *
      by_cases hj0 : 0 < j
      · go_wp2_with fail
        refine Calls.mono (tk1 hWr { data := #[97, 110, 100] } 4 (by decide) (by omega)) ?_
        rintro e w2 ⟨rfl, bs2, E2, n2, hW2, hk2⟩
        have hK2 := hkr.trans hk2
        go_wp2_with fail
        refine Calls.mono (tk2 hW2 nm { data := #[61] } (nm.size + 3) (by have a1 : ({ data := #[61] } : ByteArray).size = 1 := rfl; omega) (by omega)) ?_
        rintro e w3 ⟨rfl, bs3, E3, n3, hW3, hk3⟩
        have hK3 := hK2.trans hk3
        have hb3 := (hK3.xk hW) _ _ _ _ (by decide) hb
        have c3 : w3.cell? ⟨xb, 2, none⟩ = some (.slice (some ⟨gv, 0, none⟩) names.length cav) := by simp [World.cell?, hb3]
        have cv3 : w3.cell? ⟨gv, j, none⟩ = some (.iface T2 u2) := HC.out w3 hK3
        have p3 := hpx.keepT (hK3.xk hW)
        go_wp2_with fail
        refine Calls.mono (xg ihx p3 hW3 (by omega)) ?_
        rintro e w4 ⟨rfl, l4, bs4, o4, E4, n4, hW4, hk4⟩
        have hK4 := hK3.trans hk4
        clear hW2 hW3 hWr p3 hb3 c3 cv3 hpx
        go_wp2
        refine ⟨⟨hK4, j + 1, by omega, by go_num, l4, bs4, o4, hW4, ?_, ?_⟩, by simp [intOf]; omega⟩
        · show bs4 = _
          rw [E4.out, E3.out, E2.out, EB.out, HST.out, sC_join, sC_join, sC_join, sep_wd (t := { data := #[97, 110, 100] }) rfl, pre_wd ol, sep_wd hwd.c, sep_wd (t := { data := #[61] }) rfl, pre_wd (t := { data := #[97, 110, 100] }) rfl, pre_wd hwd.o, pre_wd (t := { data := #[61] }) rfl, if_pos hj0]
          congr 2
          apply bytes_ext
          simp only [bytes_app, List.append_assoc, List.cons_append, List.nil_append]
        · rw [sum_take_succ names j hlt, tws_take_succ kids j hjk]
          rw [HG1.out, HG2.out]
          omega
      · have hk2 := KB.refl B b wr
        have hK2 := hkr
        have E2 : Hid (bsr = bsr) := rfl
        have n2 : bsr.length ≤ bsr.length + 0 := by omega
        have hW2 := hWr
        obtain rfl : j = 0 := by omega
        clear hj0
        go_wp2_with fail
        refine Calls.mono (tk2 hW2 nm { data := #[61] } (nm.size + 3) (by have a1 : ({ data := #[61] } : ByteArray).size = 1 := rfl; omega) (by omega)) ?_
        rintro e w3 ⟨rfl, bs3, E3, n3, hW3, hk3⟩
        have hK3 := hK2.trans hk3
        have hb3 := (hK3.xk hW) _ _ _ _ (by decide) hb
        have c3 : w3.cell? ⟨xb, 2, none⟩ = some (.slice (some ⟨gv, 0, none⟩) names.length cav) := by simp [World.cell?, hb3]
        have cv3 : w3.cell? ⟨gv, 0, none⟩ = some (.iface T2 u2) := HC.out w3 hK3
        have p3 := hpx.keepT (hK3.xk hW)
        go_wp2_with fail
        refine Calls.mono (xg ihx p3 hW3 (by omega)) ?_
        rintro e w4 ⟨rfl, l4, bs4, o4, E4, n4, hW4, hk4⟩
        have hK4 := hK3.trans hk4
        clear hW2 hW3 hWr p3 hb3 c3 cv3 hpx
        go_wp2
        refine ⟨⟨hK4, 0 + 1, by omega, by go_num, l4, bs4, o4, hW4, ?_, ?_⟩, by simp [intOf]; omega⟩
        · show bs4 = _
          rw [E4.out, E3.out, EB.out, HST.out, sC_join, sC_join, sep_wd hwd.c, sep_wd (t := { data := #[61] }) rfl, pre_wd ol, pre_wd hwd.o, pre_wd (t := { data := #[61] }) rfl, if_neg (Nat.lt_irrefl 0)]
          congr 2
          apply bytes_ext
          simp only [bytes_app, List.append_assoc, List.cons_append, List.nil_append]
        · rw [sum_take_succ names 0 hlt, tws_take_succ kids 0 hjk]
          rw [HG1.out, HG2.out]
          omega
    · have hj2 : j = names.length := by omega
      have hbF := hbr
      have cF : wr.cell? ⟨xb, 3, none⟩ = some (.iface T u) := by simp [World.cell?, hbr]
      have HJ : Hid (j = names.length) := hj2
      clear hrn hrv hk hWd ihk hn' hv xk hW1 c1 hb1 hj2
      go_wp2_with fail
      refine Calls.mono (tk1 hWr { data := #[105, 110] } 3 (by decide) (by omega)) ?_
      rintro e w2 ⟨rfl, bs2, E2, n2, hW2, hk2⟩
      have hK2 := hkr.trans hk2
      have hb2 := (hK2.xk hW) _ _ _ _ (by decide) hb
      have c2 : w2.cell? ⟨xb, 3, none⟩ = some (.iface T u) := by simp [World.cell?, hb2]
      have p2 := hy.keepT (hK2.xk hW)
      go_wp2_with fail
      refine Calls.mono (xg ihy p2 hW2 (by omega)) ?_
      rintro e w3 ⟨rfl, l3, bs3, o3, E3, n3, hW3, hk3⟩
      have hK3 := hK2.trans hk3
      clear hW2 hWr p2 c2 hb2 cF hbF hbr
      go_wp2
      go_end0
      refine ⟨rfl, l3, o3, ?_, hK3⟩
      have EE : bs3 = bs ++ Lib.strCells (pre last ++ (letT ({ data := #[108, 101, 116, 32] } ++ { data := #[114, 101, 99, 32] }) names (txts (kids ++ [y])) names.length ++ { data := #[32, 105, 110, 32] } ++ txt y)) := by
        obtain ⟨m, hm⟩ : ∃ m, names.length = m + 1 := ⟨names.length - 1, by omega⟩
        rw [E3.out, E2.out, EB.out, HJ.out, hm, letT_rec, sC_join, sC_join, sep_wd (t := { data := #[105, 110] }) rfl, pre_wd ol, pre_wd (t := { data := #[105, 110] }) rfl]
        congr 2
        apply bytes_ext
        simp only [bytes_app, List.append_assoc, List.cons_append, List.nil_append]
      rw [← EE]
      exact hW3
end Go.Proofs.YtleenphlgbklmaaGreatDoor
