import Derived.Test.YtleenphlgbklmabGreatDoorUGrow
import Derived.Lib.Builder
import Derived.Lib.AppendStr
import Derived.Lib.UnsafeStr
import Derived.Shelf.RegionOpenPlain
import Derived.Deep.RegionWith
set_option linter.unusedVariables false
set_option linter.unusedSimpArgs false
namespace Go.Proofs.YtleenphlgbklmabGreatDoor
open Go.RowKit

theorem Tryz.sizeBld : (Tryz.prog.info? 180).map (·.size) = some 2 := by kernel_rfl
theorem Tryz.liesWr : liesAt Tryz.prog Tryz.prog.depth 182 (3 / Tryz.prog.cellsOf 182) 0 180 1 = true := by kernel_rfl
set_option maxRecDepth 100000 in
theorem bcc_used (b : Nat) (w : World) (h0 : w.cell? ⟨b, 0, none⟩ = some (.pointer (some ⟨b, 0, none⟩))) :
    Calls Tryz.prog 127 #[.pointer (some ⟨b, 0, none⟩)] w fun e w' => e = .returned (.tuple #[]) ∧ w' = w := by
  obtain ⟨j, hj, _⟩ := Option.map_eq_some_iff.1 Tryz.sizeBld
  go_enter Tryz.func127, Tryz.ntmps127
  go_wp2
  rw [Lib.run_neq_ptr_same w _ Tryz.underlying178 hj]
  go_wp2
  go_end0
  exact ⟨rfl, rfl⟩
set_option maxRecDepth 100000 in
set_option maxHeartbeats 1000000 in
theorem bcc_fresh (H : TypeId) (hl : liesAt Tryz.prog Tryz.prog.depth H (3 / Tryz.prog.cellsOf H) 0 180 1 = true) (b : Nat) (w : World) (h0 : w.cell? ⟨b, 0, none⟩ = some (.pointer none)) (hsh : w.shape? b = some (H, 3)) (hfz : w.frozen? ⟨b, 0, none⟩ = false) :
    Calls Tryz.prog 127 #[.pointer (some ⟨b, 0, none⟩)] w fun e w' => e = .returned (.tuple #[]) ∧ w' = w.setCell ⟨b, 0, none⟩ (.pointer (some ⟨b, 0, none⟩)) := by
  obtain ⟨j, hj, hjs⟩ := Option.map_eq_some_iff.1 Tryz.sizeBld
  go_enter Tryz.func127, Tryz.ntmps127
  go_wp2
  rw [Lib.run_to_unsafe w ⟨b, 0, none⟩ Tryz.underlying178 Tryz.underlying126 hj (by rw [hjs]; decide) hsh (Nat.zero_lt_succ 2)]
  simp only [Result.andThen]
  rw [Oper.upon_value]
  go_wp2
  rw [run_callFunc_extern Tryz.func159 (by kernel_rfl) (by kernel_rfl) (by kernel_rfl) (e := Extern.AbiNoEscape.same) (by kernel_rfl)]
  rw [Lib.run_noEscape]
  simp only [Result.andThen]
  rw [Oper.upon_value]
  go_wp2
  rw [Lib.run_from_unsafe w ⟨b, 0, none⟩ Tryz.underlying126 Tryz.underlying178 hj hsh hl]
  simp only [Result.andThen]
  rw [Oper.upon_value]
  go_wp2
  go_end0
  exact ⟨rfl, rfl⟩

theorem row_ne2 {w : World} {base : Nat} {e e' : TypeId} {z : Nat} {v : Value} {n : Nat} {xs : List Value} (h : w.ownsRow base e z v n xs) {pb : Nat} {cs : Array Value} (hp : w.heap[pb]? = some (.cells cs e' (0, 0))) (he : e' ≠ e) : v.ownBlock ≠ some pb := by
  rcases h.2 with ⟨rfl, _⟩ | ⟨g, cap, cur, rfl, _, hg, _⟩
  · simp [Value.ownBlock]
  · simp only [Value.ownBlock]
    intro q
    obtain rfl := Option.some.inj q
    rw [hg] at hp
    simp at hp
    exact he hp.2.symm
/-- a writer of the program: a builder, and one cell more. -/
def BW (H : TypeId) (w : World) (B b : Nat) (x : Value) (bs : List Value) : Prop := B ≤ b ∧ ∃ p v, (p = .pointer none ∨ p = .pointer (some ⟨b, 0, none⟩)) ∧ w.heap[b]? = some (.cells #[p, v, x] H (0, 0)) ∧ w.ownsRow B 5 1 v bs.length bs ∧ v.ownBlock ≠ some b
theorem Tryz.info5 : (Tryz.prog.info? 5).map (fun i => (i.zero, i.size, i.bytes)) = some (some (.int .u8 0), 1, 1) := by kernel_rfl
theorem bcc_any (H : TypeId) (hl : liesAt Tryz.prog Tryz.prog.depth H (3 / Tryz.prog.cellsOf H) 0 180 1 = true) (B b : Nat) (x : Value) (bs : List Value) (w : World) (h : BW H w B b x bs) :
    Calls Tryz.prog 127 #[.pointer (some ⟨b, 0, none⟩)] w fun e w' => e = .returned (.tuple #[]) ∧ Kp (· = b) w w' ∧ ∃ v, w'.heap[b]? = some (.cells #[.pointer (some ⟨b, 0, none⟩), v, x] H (0, 0)) ∧ w'.ownsRow B 5 1 v bs.length bs ∧ v.ownBlock ≠ some b := by
  obtain ⟨hB, p, v, hp, hb, ho, hne⟩ := h
  have c0 : w.cell? ⟨b, 0, none⟩ = some p := by simp [World.cell?, hb]
  rcases hp with rfl | rfl
  · refine (bcc_fresh H hl b w c0 (by simp [World.shape?, hb]) (by simp [World.frozen?, hb])).mono ?_
    rintro e w' ⟨rfl, rfl⟩
    refine ⟨rfl, (Kp.refl _ _).setCell _ _ (fun _ => rfl), v, ?_, ownsRow_setCell_other ho hne _, hne⟩
    simp [World.setCell, hb, Array.getElem?_modify]
  · refine (bcc_used b w c0).mono ?_
    rintro e w' ⟨rfl, hww⟩
    subst hww
    exact ⟨rfl, Kp.refl _ _, v, hb, ho, hne⟩

set_option maxRecDepth 100000 in
set_option maxHeartbeats 1000000 in
theorem bws_any (H : TypeId) (hl : liesAt Tryz.prog Tryz.prog.depth H (3 / Tryz.prog.cellsOf H) 0 180 1 = true) (hH : H ≠ 5) (B b : Nat) (x : Value) (bs : List Value) (s : ByteArray) (w : World) (h : BW H w B b x bs) (hlen : bs.length + s.size ≤ 1000000000) :
    Calls Tryz.prog 85 #[.pointer (some ⟨b, 0, none⟩), .string s] w fun e w' => e = .returned (.tuple #[.int .i64 s.size, .nilIface]) ∧ BW H w' B b x (bs ++ Lib.strCells s) ∧ Kp (fun q => B ≤ q) w w' := by
  obtain ⟨i0, hi, hz0, hz1, hz2⟩ := info_parts Tryz.info5
  have hB := h.1
  have HC : Hid _ := bcc_any H hl B b x bs w h
  have hlt0 : b < w.heap.size := by obtain ⟨_, p, v, _, hb, _⟩ := h; exact lt_of_block hb
  clear h
  go_enter Tryz.func85, Tryz.ntmps85
  go_wp2_with fail
  refine Calls.mono HC.out ?_
  rintro e w1 ⟨rfl, hK1, v, hbk, hown, hne⟩
  have c1 : w1.cell? ⟨b, 1, none⟩ = some v := by simp [World.cell?, hbk]
  have hs1 := hK1.size
  clear HC
  go_wp2_with (at_builtin; refine Lib.wpList_append_own_string _ rfl _ _ 41 9 rfl B 5 i0 Tryz.underlying41 Tryz.underlying9 hi hz0 hz1 hz2 _ _ _ rfl hown s rfl (by unfold maxLen; omega) (by omega) (by omega) ?_)
  intro v' w2 hown' hgrow hx9
  obtain ⟨ao2, cap2, rfl⟩ : ∃ ao cap, v' = .slice ao (bs.length + s.size) cap := by
    rcases hown'.2 with ⟨e1, e2⟩ | ⟨g, cap, cur, e1, _⟩
    · exact ⟨none, 0, by rw [e1, e2]⟩
    · exact ⟨_, cap, e1⟩
  have hlt := lt_of_block hbk
  have hb2 : w2.heap[b]? = some (.cells #[.pointer (some ⟨b, 0, none⟩), v, x] H (0, 0)) := by
    rw [hgrow.block b hlt (fun e => hne e.symm)]
    exact hbk
  have d1 : w2.cell? ⟨b, 1, none⟩ = some v := by simp [World.cell?, hb2]
  have f1 : w2.frozen? ⟨b, 1, none⟩ = false := by simp [World.frozen?, hb2]
  have hne' : (Value.slice ao2 (bs.length + s.size) cap2).ownBlock ≠ some b := row_ne2 hown' hb2 hH
  have hF : BW H (w2.setCell ⟨b, 1, none⟩ (.slice ao2 (bs.length + s.size) cap2)) B b x (bs ++ Lib.strCells s) := by
    refine ⟨hB, .pointer (some ⟨b, 0, none⟩), .slice ao2 (bs.length + s.size) cap2, .inr rfl, ?_, ?_, hne'⟩
    · simp [World.setCell, hb2, Array.getElem?_modify]
    · have := ownsRow_setCell_other hown' (a := ⟨b, 1, none⟩) hne' (.slice ao2 (bs.length + s.size) cap2)
      simpa [Lib.strCells] using this
  have hKF : Kp (fun q => B ≤ q) w (w2.setCell ⟨b, 1, none⟩ (.slice ao2 (bs.length + s.size) cap2)) :=
    ((hK1.mono (fun q _ e => by have e : q = b := e; omega)).grown hgrow (fun q e _ => (hown.lt q e).1)).setCell _ _ (fun _ => hB)
  clear hown' hgrow hx9 hbk hown
  go_wp2
  exact bodyPost_ret (v := .tuple #[.int .i64 s.size, .nilIface]) (by simp [results, Tryz.results85, go_sem]) rfl ⟨rfl, hF, hKF⟩

theorem Tryz.mixed : Tryz.prog.follows Departure.mixedOrders = true := by kernel_rfl
theorem Tryz.cellsByte : Tryz.prog.cellsOf 5 = 1 := by kernel_rfl
set_option maxHeartbeats 1000000 in
set_option maxRecDepth 100000 in
theorem bstr_any (H : TypeId) (B b : Nat) (x : Value) (l : List UInt8) (w : World) (h : BW H w B b x (Lib.byteCells l)) (h0 : l ≠ []) :
    Calls Tryz.prog 77 #[.pointer (some ⟨b, 0, none⟩)] w fun e w' => e = .returned (.string ⟨l.toArray⟩) ∧ Below B w w' := by
  obtain ⟨hB, p, v, _, hbk, hown, hne⟩ := h
  have hl0 : l.length ≠ 0 := by simpa using h0
  rw [Lib.byteCells_length] at hown
  obtain ⟨g, cap, cur, rfl, hbg, hg, hnc, hcm, hcs, htake⟩ : ∃ g cap cur, v = .slice (some ⟨g, 0, none⟩) l.length cap ∧ B ≤ g ∧ w.heap[g]? = some (.cells cur 5 (0, 0)) ∧ l.length ≤ cap ∧ cap ≤ maxLen ∧ cur.size = cap * 1 ∧ cur.toList.take (l.length * 1) = Lib.byteCells l := by
    rcases hown.2 with ⟨_, hz⟩ | ⟨g, cap, cur, hv, r⟩
    · exact absurd hz hl0
    · exact ⟨g, cap, cur, hv, r⟩
  have c1 : w.drew.cell? ⟨b, 1, none⟩ = some (.slice (some ⟨g, 0, none⟩) l.length cap) := by
    have : w.drew.heap[b]? = some (.cells #[p, .slice (some ⟨g, 0, none⟩) l.length cap, x] H (0, 0)) := hbk
    rw [Lib.cell_of_heap this]; rfl
  have hSD : (Builtin.unsafeSliceData_ #[41] 266 #[.slice (some ⟨g, 0, none⟩) l.length cap]).run Tryz.prog w.drew = .ok (.pointer (some ⟨g, 0, none⟩)) w.drew :=
    Lib.run_unsafeSliceData_row _ _ _ _ _ _ (by omega)
  have hUS : (Builtin.unsafeString_ #[266, 3] 9 #[.pointer (some ⟨g, 0, none⟩), .int .i64 l.length]).run Tryz.prog w.drew = .ok (.string ⟨l.toArray⟩) (w.drew.freeze ⟨g, 0, none⟩ l.length) := by
    refine Lib.run_unsafeString_row w.drew 266 3 9 5 Tryz.underlying266 Tryz.cellsByte g cur.size (by have hg' : w.drew.heap[g]? = some (.cells cur 5 (0, 0)) := hg; simp [World.shape?, hg']) l h0 (by omega) (by unfold maxLen at hcm; omega) ?_
    intro j y hy
    have := hown.cells (g := g) rfl j (.int .u8 y.toNat) (by simp [Lib.byteCells, hy])
    exact this
  have mixed := Tryz.mixed
  clear hown hne hg hnc hcm hcs htake hbk
  go_enter Tryz.func77, Tryz.ntmps77
  go_wp2
  go_region_o
  all_goals (go_wp2; go_ret; exact ⟨rfl, Lib.below_freeze (Below.drew (Below.refl B w)) (p := ⟨g, 0, none⟩) hbg _⟩)
end Go.Proofs.YtleenphlgbklmabGreatDoor
