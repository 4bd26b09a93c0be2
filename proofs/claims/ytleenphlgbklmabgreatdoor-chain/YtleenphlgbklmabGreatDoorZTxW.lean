import Derived.Laws.DeepStrings4
import Derived.Test.YtleenphlgbklmabGreatDoorZTxV
set_option linter.unusedVariables false
set_option linter.unusedSimpArgs false
namespace Go.Proofs.YtleenphlgbklmabGreatDoor
open Go.RowKit

theorem spCells_get (sp : List Sp) (k : Nat) (s : Sp) (h : sp[k]? = some s) (j : Nat) (hj : j < 3) : (spCells sp)[k * 3 + j]? = s.cells[j]? := by
  induction sp generalizing k with
  | nil => simp at h
  | cons a l ih =>
    have ha : a.cells.length = 3 := by cases a <;> rfl
    cases k with
    | zero =>
      simp at h
      subst h
      simp only [spCells]
      rw [List.getElem?_append_left (by omega)]
      simp
    | succ k =>
      simp at h
      simp only [spCells]
      rw [List.getElem?_append_right (by omega)]
      rw [show (k + 1) * 3 + j - a.cells.length = k * 3 + j by omega]
      exact ih k h
theorem decS_take_succ (sp : List Sp) (k : Nat) (s : Sp) (h : sp[k]? = some s) : decS (sp.take (k + 1)) = s.put (decS (sp.take k)) := by
  have hk := (List.getElem?_eq_some_iff.1 h).1
  have e := List.take_succ_eq_append_getElem hk
  have e2 : sp[k] = s := by
    have := List.getElem?_eq_getElem hk
    rw [this] at h
    simpa using h
  rw [e, decS_snoc, e2]
theorem decS_mono (sp : List Sp) (q : Nat) : (decS (sp.take q)).size ≤ (decS sp).size := by
  have h : ∀ (l : List Sp) (a : ByteArray), a.size ≤ (l.foldl Sp.put a).size := by
    intro l
    induction l with
    | nil => intro a; exact Nat.le_refl _
    | cons x l ih =>
      intro a
      refine Nat.le_trans ?_ (ih _)
      cases x <;> simp [Sp.put]
  have e : decS sp = (sp.drop q).foldl Sp.put (decS (sp.take q)) := by
    unfold decS
    rw [← List.foldl_append, List.take_append_drop]
  rw [e]
  exact h _ _
set_option maxRecDepth 20000 in
set_option maxHeartbeats 1000000 in
theorem written_any {w : World} {B b pm : Nat} {fv : Value} {sp : List Sp} (h : TL w B b pm fv sp) :
    Calls Tryz.prog 56 #[.pointer (some ⟨b, 0, none⟩)] w fun e w' => e = .returned (.string (decS sp)) ∧ Below w.heap.size w w' := by
  obtain ⟨sv, hb, ho, _, _⟩ := h.cs
  have hlt := h.lt
  obtain ⟨ao, cap, rfl⟩ : ∃ ao cap, sv = .slice ao sp.length cap := by
    rcases ho.2 with ⟨rfl, q⟩ | ⟨g, cap, cur, rfl, _⟩
    · exact ⟨none, 0, by rw [q]⟩
    · exact ⟨_, _, rfl⟩
  have c1 : w.cell? ⟨b, 1, none⟩ = some (.slice ao sp.length cap) := by simp [World.cell?, hb]
  have c2 : w.cell? ⟨b, 2, none⟩ = some (.int .i64 (decS sp).size) := by simp [World.cell?, hb]
  have hbl := lt_of_block hb
  have HG : Hid _ := fgrow w.heap.size w.heap.size (decS sp).size (w.alloc (.cells #[.pointer none, .slice none 0 0] 180)) (Nat.le_refl _) (heap_alloc_new _ _) (by simp) (by omega)
  have HO : Hid _ := ho
  have HB : Hid _ := h
  clear h ho
  go_enter Tryz.func56, Tryz.ntmps56
  go_wp2_with fail
  refine Calls.mono HG.out ?_
  rintro e w1 ⟨rfl, hW1, hk1⟩
  have hkA : Below w.heap.size w w1 := ((Below.refl _ w).alloc (Nat.le_refl _) _).trans hk1
  have hx1 : w1.cell? ⟨b, 1, none⟩ = some (.slice ao sp.length cap) := (World.cell?_of_block (hkA.block b hbl)).trans c1
  have hI : Lib.IsBuilderF 180 5 w.heap.size w.heap.size (Lib.byteCells (decS (sp.take 0)).data.toList) w1 := by
    have : Lib.byteCells (decS (sp.take 0)).data.toList = [] := by simp [decS, Lib.byteCells]
    rw [this]
    exact .inr (Lib.BuilderAtF.of hW1)
  have HI : Hid _ := hI
  clear HG hk1 hW1 hI
  have HGOOD : Hid _ := HB.out.good
  obtain ⟨g, hrow⟩ : ∃ g, ∀ (q : Nat) (x : Sp), sp[q]? = some x → ao = some ⟨g, 0, none⟩ ∧ g < w.heap.size ∧ ∀ (j : Nat) (u : Value), x.cells[j]? = some u → j < 3 → w.cell? ⟨g, q * 3 + j, none⟩ = some u := by
    have ho := HO.out
    rcases ho.2 with ⟨e1, e2⟩ | ⟨g, cap', cur, e1, _, hg, _⟩
    · refine ⟨0, fun q x hx => ?_⟩
      have := (List.getElem?_eq_some_iff.1 hx).1
      omega
    · simp only [Value.slice.injEq] at e1
      refine ⟨g, fun q x hx => ⟨e1.1, lt_of_block hg, fun j u hu hj => ?_⟩⟩
      have h1 := World.ownsRow.cells ho (g := g) (by rw [e1.1]; rfl) (q * 3 + j) u (by rw [spCells_get sp q x hx j hj]; exact hu)
      have e3 : ((⟨g, 0, none⟩ : Addr).add (q * 3 + j)) = ⟨g, q * 3 + j, none⟩ := by unfold Addr.add; split <;> simp_all
      rw [e3] at h1
      exact h1
  have HR : Hid _ := hrow
  clear hrow HO HB
  go_wp2
  go_loopw [16] (fun i wr => ∃ q : Nat, q ≤ sp.length ∧ i = .int .i64 q ∧ Lib.IsBuilderF 180 5 w.heap.size w.heap.size (Lib.byteCells (decS (sp.take q)).data.toList) wr ∧ Below w.heap.size w wr) (fun i _ => sp.length - (intOf i).toNat)
  case atStart => exact ⟨0, Nat.zero_le _, rfl, HI.out, hkA⟩
  case round =>
    obtain ⟨q, hq, rfl, hW, hBr⟩ := hrel
    clear HI hkA hx1
    by_cases hlt2 : q < sp.length
    · obtain ⟨x, hx⟩ : ∃ x, sp[q]? = some x := ⟨sp[q], by simp [hlt2]⟩
      obtain ⟨rfl, hgl, hcs⟩ := HR.out q x hx
      have hgood := HGOOD.out q x hx
      have hds := decS_take_succ sp q x hx
      have hcr : ∀ (j : Nat) (u : Value), x.cells[j]? = some u → j < 3 → wr.cell? ⟨g, q * 3 + j, none⟩ = some u := fun j u hu hj => (World.cell?_of_block (hBr.block g hgl)).trans (hcs j u hu hj)
      have hlen : (decS (sp.take q)).size ≤ 2147483647 := Nat.le_trans (decS_mono sp q) hlt.1
      have hbw := Nat.le_trans (Nat.le_refl _) hBr.size
      cases x with
      | tk t =>
        have k0 : wr.cell? ⟨g, q * 3, none⟩ = some (.string t) := hcr 0 _ rfl (by decide)
        have k1 : wr.cell? ⟨g, q * 3 + 1, none⟩ = some (.int .i64 0) := hcr 1 _ rfl (by decide)
        have k2 : wr.cell? ⟨g, q * 3 + 2, none⟩ = some (.int .i64 0) := hcr 2 _ rfl (by decide)
        have hte : t.toList.isEmpty = false := by
          rw [ByteArray.toList_eq]
          have : 0 < t.size := hgood
          have e : t.data.toList.length = t.size := by rw [Array.length_toList]; rfl
          cases hd : t.data.toList with
          | nil => rw [hd] at e; simp at e; omega
          | cons a l => rfl
        have hts : (decS (sp.take (q + 1))).size ≤ 2147483647 := Nat.le_trans (decS_mono sp (q + 1)) hlt.1
        have hds : decS (sp.take (q + 1)) = decS (sp.take q) ++ t := hds
        rw [hds, ByteArray.size_append] at hts
        have HW : Hid _ := fwrite w.heap.size w.heap.size _ t (wr.alloc (.cells #[.string t, .int .i64 0, .int .i64 0] 202)) (bf_alloc hW _) (by rw [Lib.byteCells_length, ← Lib.size_eq]; omega) (by simp; omega)
        have hka : Below w.heap.size w (wr.alloc (.cells #[.string t, .int .i64 0, .int .i64 0] 202)) := hBr.alloc hBr.size _
        have HD : Hid _ := hds
        clear hcr hcs HR HGOOD hW hds
        go_wp2_with fail
        refine Calls.mono HW.out ?_
        rintro e w3 ⟨rfl, hW3, hk3⟩
        have hF : Lib.IsBuilderF 180 5 w.heap.size w.heap.size (Lib.byteCells (decS (sp.take (q + 1))).data.toList) w3 := by
          have e : Lib.byteCells (decS (sp.take (q + 1))).data.toList = Lib.byteCells (decS (sp.take q)).data.toList ++ Lib.strCells t := by
            rw [HD.out, Lib.strCells_eq, ← Lib.byteCells_append]
            simp
          rw [e]
          exact .inr hW3
        clear HW hW3
        go_wp2
        exact ⟨⟨q + 1, by omega, by go_num, hF, hka.trans hk3⟩, by simp [intOf]; omega⟩
      | cp f u =>
        have k0 : wr.cell? ⟨g, q * 3, none⟩ = some (.string { data := #[] }) := hcr 0 _ rfl (by decide)
        have k1 : wr.cell? ⟨g, q * 3 + 1, none⟩ = some (.int .i64 f) := hcr 1 _ rfl (by decide)
        have k2 : wr.cell? ⟨g, q * 3 + 2, none⟩ = some (.int .i64 u) := hcr 2 _ rfl (by decide)
        have hfu : f ≤ u ∧ u ≤ (decS (sp.take q)).size := hgood
        have hts : (decS (sp.take (q + 1))).size ≤ 2147483647 := Nat.le_trans (decS_mono sp (q + 1)) hlt.1
        have hds : decS (sp.take (q + 1)) = decS (sp.take q) ++ (decS (sp.take q)).extract f u := hds
        rw [hds, ByteArray.size_append] at hts
        have HS : Hid _ := fstring w.heap.size w.heap.size _ (wr.alloc (.cells #[.string { data := #[] }, .int .i64 f, .int .i64 u] 202)).drew (bf_alloc hW _) (by simp; omega)
        have hka : Below w.heap.size w (wr.alloc (.cells #[.string { data := #[] }, .int .i64 f, .int .i64 u] 202)).drew := (hBr.alloc hBr.size _).drew
        have hsb : (wr.alloc (.cells #[.string { data := #[] }, .int .i64 f, .int .i64 u] 202)).drew.heap[wr.heap.size]? = some (.cells #[.string { data := #[] }, .int .i64 f, .int .i64 u] 202 (0, 0)) := heap_alloc_new _ _
        have hne : wr.heap.size ≠ w.heap.size := fun z => by
          rcases hW with ⟨_, v, hb', _⟩ | ⟨_, v, hb', _⟩
          · have := lt_of_block hb'
            omega
          · have := lt_of_block hb'
            omega
        have HO : Hid (∀ w2 : World, Lib.OthersKept 5 (some w.heap.size) (wr.alloc (.cells #[.string { data := #[] }, .int .i64 f, .int .i64 u] 202)).drew w2 → w2.heap[wr.heap.size]? = some (.cells #[.string { data := #[] }, .int .i64 f, .int .i64 u] 202 (0, 0))) := fun w2 h2 => h2 _ _ hsb (fun z => hne (by simpa using z)) (fun c fz z => by cases z)
        have HD : Hid _ := hds
        clear hcr hcs HR HGOOD hW hds hsb hgood
        generalize decS (sp.take q) = d at *
        go_wp2_with fail
        go_region_with (go_at_call 77; refine Calls.mono HS.out ?_; rintro e w2 ⟨rfl, hW2, hk2, ho2⟩; have hs2 := HO.out w2 ho2; have m0 : w2.cell? ⟨wr.heap.size, 0, none⟩ = some (.string { data := #[] }) := (by simp [World.cell?, hs2]); have m1 : w2.cell? ⟨wr.heap.size, 1, none⟩ = some (.int .i64 f) := (by simp [World.cell?, hs2]); have m2 : w2.cell? ⟨wr.heap.size, 2, none⟩ = some (.int .i64 u) := (by simp [World.cell?, hs2]); have mf : w2.frozen? ⟨wr.heap.size, 0, none⟩ = false := (by simp [World.frozen?, hs2]))
        all_goals
          have hB2 : Lib.IsBuilderF 180 5 w.heap.size w.heap.size (Lib.byteCells d.data.toList) (w2.setCell ⟨wr.heap.size, 0, none⟩ (.string (d.extract f u))) := bf_keep (c := wr.heap.size) hW2 (fun k o hk hn => (Below.heap_setCell _ _ _ _ hn).trans hk) (fun cs e fz hk => by rw [hs2] at hk; simp only [Option.some.injEq, Obj.cells.injEq] at hk; obtain ⟨_, rfl, _⟩ := hk; decide)
          have hsz2 : w.heap.size ≤ (w2.setCell ⟨wr.heap.size, 0, none⟩ (.string (d.extract f u))).heap.size := by simp; exact (hka.trans hk2).size
          have HW : Hid _ := fwrite w.heap.size w.heap.size _ (d.extract f u) (w2.setCell ⟨wr.heap.size, 0, none⟩ (.string (d.extract f u))) hB2 (by rw [Lib.byteCells_length, ← Lib.size_eq]; omega) hsz2
          have hkb : Below w.heap.size w (w2.setCell ⟨wr.heap.size, 0, none⟩ (.string (d.extract f u))) := (hka.trans hk2).setCell (p := ⟨wr.heap.size, 0, none⟩) hBr.size _
          have hcx : (w2.setCell ⟨wr.heap.size, 0, none⟩ (.string (d.extract f u))).cell? ⟨wr.heap.size, 0, none⟩ = some (.string (d.extract f u)) := by
            simp [World.cell?, World.setCell, hs2, Array.getElem?_modify]
          clear hW2 hB2 hs2 m0 m1 m2 mf ho2
          have hww : w2.setCell ⟨wr.heap.size, 0, none⟩ (.string (({ data := d.data } : ByteArray).extract f u)) = w2.setCell ⟨wr.heap.size, 0, none⟩ (.string (d.extract f u)) := rfl
          rw [hww]
          generalize w2.setCell ⟨wr.heap.size, 0, none⟩ (.string (d.extract f u)) = w5 at *
          go_wp2_with fail
          refine Calls.mono HW.out ?_
          rintro e w3 ⟨rfl, hW3, hk3⟩
          have hF : Lib.IsBuilderF 180 5 w.heap.size w.heap.size (Lib.byteCells (decS (sp.take (q + 1))).data.toList) w3 := by
            have e : Lib.byteCells (decS (sp.take (q + 1))).data.toList = Lib.byteCells d.data.toList ++ Lib.strCells (d.extract f u) := by
              rw [HD.out, Lib.strCells_eq, ← Lib.byteCells_append]
              simp
            rw [e]
            exact .inr hW3
          clear HW hW3
          go_wp2
          exact ⟨⟨q + 1, by omega, by go_num, hF, hkb.trans hk3⟩, by simp [intOf]; omega⟩
    · have hqe : q = sp.length := by omega
      subst hqe
      have HS : Hid _ := fstring w.heap.size w.heap.size _ wr hW hBr.size
      rw [List.take_length] at HS
      clear hW HR HGOOD
      go_wp2_with fail
      refine Calls.mono HS.out ?_
      rintro e w2 ⟨rfl, _, hk2, _⟩
      go_wp2
      go_ret
      exact ⟨rfl, hBr.trans hk2⟩
end Go.Proofs.YtleenphlgbklmabGreatDoor
