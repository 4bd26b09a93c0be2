import Derived.Lib.Builder
import Derived.Lib.AppendStr
import Derived.Lib.UnsafeStr
import Derived.Shelf.RegionOpenPlain
import Derived.Deep.RegionWith
import Derived.Test.YtleenphlgbklmabGreatDoorXTree
import Derived.WalkLawsBesides
import Derived.Deep.LoopGhost
import Derived.Lib.Bytealg
set_option linter.unusedVariables false
set_option linter.unusedSimpArgs false
namespace Go.Proofs.YtleenphlgbklmabGreatDoor
open Go.RowKit

theorem Tryz.sizeBld : (Tryz.prog.info? 180).map (·.size) = some 2 := by kernel_rfl
theorem Tryz.liesWr : liesAt Tryz.prog Tryz.prog.depth 182 (3 / Tryz.prog.cellsOf 182) 0 180 1 = true := by kernel_rfl
set_option maxRecDepth 100000 in
theorem bcc_used (b : Nat) (w : World) (h0 : w.cell? ⟨b, 0, none⟩ = some (.pointer (some ⟨b, 0, none⟩))) :
    Calls Tryz.prog 127 #[.pointer (some ⟨b, 0, none⟩)] w fun e w' => e = .returned (.tuple #[]) ∧ w' = w := by
  obtain ⟨j, hj, _⟩ := Option.map_eq_some_iff.1 Tryz.sizeBld
  go_enter Tryz.func127, Tryz.ntmps127
  go_wp2
  rw [Lib.run_neq_ptr_same w _ Tryz.underlying178 hj]
  go_wp2
  go_end0
  exact ⟨rfl, rfl⟩
set_option maxRecDepth 100000 in
set_option maxHeartbeats 1000000 in
theorem bcc_fresh (H : TypeId) (hl : liesAt Tryz.prog Tryz.prog.depth H (3 / Tryz.prog.cellsOf H) 0 180 1 = true) (b : Nat) (w : World) (h0 : w.cell? ⟨b, 0, none⟩ = some (.pointer none)) (hsh : w.shape? b = some (H, 3)) (hfz : w.frozen? ⟨b, 0, none⟩ = false) :
    Calls Tryz.prog 127 #[.pointer (some ⟨b, 0, none⟩)] w fun e w' => e = .returned (.tuple #[]) ∧ w' = w.setCell ⟨b, 0, none⟩ (.pointer (some ⟨b, 0, none⟩)) := by
  obtain ⟨j, hj, hjs⟩ := Option.map_eq_some_iff.1 Tryz.sizeBld
  go_enter Tryz.func127, Tryz.ntmps127
  go_wp2
  rw [Lib.run_to_unsafe w ⟨b, 0, none⟩ Tryz.underlying178 Tryz.underlying126 hj (by rw [hjs]; decide) hsh (Nat.zero_lt_succ 2)]
  simp only [Result.andThen]
  rw [Oper.upon_value]
  go_wp2
  rw [run_callFunc_extern Tryz.func159 (by kernel_rfl) (by kernel_rfl) (by kernel_rfl) (e := Extern.AbiNoEscape.same) (by kernel_rfl)]
  rw [Lib.run_noEscape]
  simp only [Result.andThen]
  rw [Oper.upon_value]
  go_wp2
  rw [Lib.run_from_unsafe w ⟨b, 0, none⟩ Tryz.underlying126 Tryz.underlying178 hj hsh hl]
  simp only [Result.andThen]
  rw [Oper.upon_value]
  go_wp2
  go_end0
  exact ⟨rfl, rfl⟩

theorem row_ne2 {w : World} {base : Nat} {e e' : TypeId} {z : Nat} {v : Value} {n : Nat} {xs : List Value} (h : w.ownsRow base e z v n xs) {pb : Nat} {cs : Array Value} (hp : w.heap[pb]? = some (.cells cs e' (0, 0))) (he : e' ≠ e) : v.ownBlock ≠ some pb := by
  rcases h.2 with ⟨rfl, _⟩ | ⟨g, cap, cur, rfl, _, hg, _⟩
  · simp [Value.ownBlock]
  · simp only [Value.ownBlock]
    intro q
    obtain rfl := Option.some.inj q
    rw [hg] at hp
    simp at hp
    exact he hp.2.symm
/-- a writer of the program: a builder, and one cell more. -/
def BW (H : TypeId) (w : World) (B b : Nat) (x : Value) (bs : List Value) : Prop := B ≤ b ∧ ∃ p v, (p = .pointer none ∨ p = .pointer (some ⟨b, 0, none⟩)) ∧ w.heap[b]? = some (.cells #[p, v, x] H (0, 0)) ∧ w.ownsRow B 5 1 v bs.length bs ∧ v.ownBlock ≠ some b
theorem Tryz.info5 : (Tryz.prog.info? 5).map (fun i => (i.zero, i.size, i.bytes)) = some (some (.int .u8 0), 1, 1) := by kernel_rfl
theorem bcc_any (H : TypeId) (hl : liesAt Tryz.prog Tryz.prog.depth H (3 / Tryz.prog.cellsOf H) 0 180 1 = true) (B b : Nat) (x : Value) (bs : List Value) (w : World) (h : BW H w B b x bs) :
    Calls Tryz.prog 127 #[.pointer (some ⟨b, 0, none⟩)] w fun e w' => e = .returned (.tuple #[]) ∧ Kp (· = b) w w' ∧ ∃ v, w'.heap[b]? = some (.cells #[.pointer (some ⟨b, 0, none⟩), v, x] H (0, 0)) ∧ w'.ownsRow B 5 1 v bs.length bs ∧ v.ownBlock ≠ some b := by
  obtain ⟨hB, p, v, hp, hb, ho, hne⟩ := h
  have c0 : w.cell? ⟨b, 0, none⟩ = some p := by simp [World.cell?, hb]
  rcases hp with rfl | rfl
  · refine (bcc_fresh H hl b w c0 (by simp [World.shape?, hb]) (by simp [World.frozen?, hb])).mono ?_
    rintro e w' ⟨rfl, rfl⟩
    refine ⟨rfl, (Kp.refl _ _).setCell _ _ (fun _ => rfl), v, ?_, ownsRow_setCell_other ho hne _, hne⟩
    simp [World.setCell, hb, Array.getElem?_modify]
  · refine (bcc_used b w c0).mono ?_
    rintro e w' ⟨rfl, hww⟩
    subst hww
    exact ⟨rfl, Kp.refl _ _, v, hb, ho, hne⟩

theorem Tryz.mixed : Tryz.prog.follows Departure.mixedOrders = true := by kernel_rfl
theorem Tryz.cellsByte : Tryz.prog.cellsOf 5 = 1 := by kernel_rfl
set_option maxHeartbeats 1000000 in
set_option maxRecDepth 100000 in
theorem bstr_any (H : TypeId) (B b : Nat) (x : Value) (l : List UInt8) (w : World) (h : BW H w B b x (Lib.byteCells l)) (h0 : l ≠ []) :
    Calls Tryz.prog 77 #[.pointer (some ⟨b, 0, none⟩)] w fun e w' => e = .returned (.string ⟨l.toArray⟩) ∧ Below B w w' := by
  obtain ⟨hB, p, v, _, hbk, hown, hne⟩ := h
  have hl0 : l.length ≠ 0 := by simpa using h0
  rw [Lib.byteCells_length] at hown
  obtain ⟨g, cap, cur, rfl, hbg, hg, hnc, hcm, hcs, htake⟩ : ∃ g cap cur, v = .slice (some ⟨g, 0, none⟩) l.length cap ∧ B ≤ g ∧ w.heap[g]? = some (.cells cur 5 (0, 0)) ∧ l.length ≤ cap ∧ cap ≤ maxLen ∧ cur.size = cap * 1 ∧ cur.toList.take (l.length * 1) = Lib.byteCells l := by
    rcases hown.2 with ⟨_, hz⟩ | ⟨g, cap, cur, hv, r⟩
    · exact absurd hz hl0
    · exact ⟨g, cap, cur, hv, r⟩
  have c1 : w.drew.cell? ⟨b, 1, none⟩ = some (.slice (some ⟨g, 0, none⟩) l.length cap) := by
    have : w.drew.heap[b]? = some (.cells #[p, .slice (some ⟨g, 0, none⟩) l.length cap, x] H (0, 0)) := hbk
    rw [Lib.cell_of_heap this]; rfl
  have hSD : (Builtin.unsafeSliceData_ #[41] 266 #[.slice (some ⟨g, 0, none⟩) l.length cap]).run Tryz.prog w.drew = .ok (.pointer (some ⟨g, 0, none⟩)) w.drew :=
    Lib.run_unsafeSliceData_row _ _ _ _ _ _ (by omega)
  have hUS : (Builtin.unsafeString_ #[266, 3] 9 #[.pointer (some ⟨g, 0, none⟩), .int .i64 l.length]).run Tryz.prog w.drew = .ok (.string ⟨l.toArray⟩) (w.drew.freeze ⟨g, 0, none⟩ l.length) := by
    refine Lib.run_unsafeString_row w.drew 266 3 9 5 Tryz.underlying266 Tryz.cellsByte g cur.size (by have hg' : w.drew.heap[g]? = some (.cells cur 5 (0, 0)) := hg; simp [World.shape?, hg']) l h0 (by omega) (by unfold maxLen at hcm; omega) ?_
    intro j y hy
    have := hown.cells (g := g) rfl j (.int .u8 y.toNat) (by simp [Lib.byteCells, hy])
    exact this
  have mixed := Tryz.mixed
  clear hown hne hg hnc hcm hcs htake hbk
  go_enter Tryz.func77, Tryz.ntmps77
  go_wp2
  go_region_o
  all_goals (go_wp2; go_ret; exact ⟨rfl, Lib.below_freeze (Below.drew (Below.refl B w)) (p := ⟨g, 0, none⟩) hbg _⟩)
end Go.Proofs.YtleenphlgbklmabGreatDoor

namespace Go.Proofs.YtleenphlgbklmabGreatDoor
open Go.RowKit

/-- but for a builder and for bytes all that lay there is as it was; and all below B. -/
structure KB (B b : Nat) (w w' : World) : Prop where
  kp : Kp (fun q => B ≤ q) w w'
  oth : ∀ k cs e f, k ≠ b → e ≠ 5 → w.heap[k]? = some (.cells cs e f) → w'.heap[k]? = some (.cells cs e f)
theorem KB.refl (B b : Nat) (w : World) : KB B b w w := ⟨Kp.refl _ _, fun _ _ _ _ _ _ h => h⟩
theorem KB.trans {B b : Nat} {x y z : World} (h : KB B b x y) (k : KB B b y z) : KB B b x z := ⟨h.kp.trans k.kp, fun q cs e f h1 h2 h3 => k.oth q cs e f h1 h2 (h.oth q cs e f h1 h2 h3)⟩
theorem KB.alloc (B b : Nat) (w : World) (o : Obj) : KB B b w (w.alloc o) := ⟨(Kp.refl _ _).alloc _, fun q cs e f _ _ h => ((Kp.refl (fun _ => False) w).alloc o).blk h (fun z => z)⟩
set_option maxRecDepth 100000 in
set_option maxHeartbeats 1000000 in
theorem bws2_any (H : TypeId) (hl : liesAt Tryz.prog Tryz.prog.depth H (3 / Tryz.prog.cellsOf H) 0 180 1 = true) (hH : H ≠ 5) (B b : Nat) (x : Value) (bs : List Value) (s : ByteArray) (w : World) (h : BW H w B b x bs) (hlen : bs.length + s.size ≤ 1000000000) :
    Calls Tryz.prog 85 #[.pointer (some ⟨b, 0, none⟩), .string s] w fun e w' => e = .returned (.tuple #[.int .i64 s.size, .nilIface]) ∧ BW H w' B b x (bs ++ Lib.strCells s) ∧ KB B b w w' := by
  obtain ⟨i0, hi, hz0, hz1, hz2⟩ := info_parts Tryz.info5
  have hB := h.1
  have HC : Hid _ := bcc_any H hl B b x bs w h
  have hlt0 : b < w.heap.size := by obtain ⟨_, p, v, _, hb, _⟩ := h; exact lt_of_block hb
  clear h
  go_enter Tryz.func85, Tryz.ntmps85
  go_wp2_with fail
  refine Calls.mono HC.out ?_
  rintro e w1 ⟨rfl, hK1, v, hbk, hown, hne⟩
  have c1 : w1.cell? ⟨b, 1, none⟩ = some v := by simp [World.cell?, hbk]
  have hs1 := hK1.size
  clear HC
  go_wp2_with (at_builtin; refine Lib.wpList_append_own_string _ rfl _ _ 41 9 rfl B 5 i0 Tryz.underlying41 Tryz.underlying9 hi hz0 hz1 hz2 _ _ _ rfl hown s rfl (by unfold maxLen; omega) (by omega) (by omega) ?_)
  intro v' w2 hown' hgrow hx9
  obtain ⟨ao2, cap2, rfl⟩ : ∃ ao cap, v' = .slice ao (bs.length + s.size) cap := by
    rcases hown'.2 with ⟨e1, e2⟩ | ⟨g, cap, cur, e1, _⟩
    · exact ⟨none, 0, by rw [e1, e2]⟩
    · exact ⟨_, cap, e1⟩
  have hlt := lt_of_block hbk
  have hb2 : w2.heap[b]? = some (.cells #[.pointer (some ⟨b, 0, none⟩), v, x] H (0, 0)) := by
    rw [hgrow.block b hlt (fun e => hne e.symm)]
    exact hbk
  have d1 : w2.cell? ⟨b, 1, none⟩ = some v := by simp [World.cell?, hb2]
  have f1 : w2.frozen? ⟨b, 1, none⟩ = false := by simp [World.frozen?, hb2]
  have hne' : (Value.slice ao2 (bs.length + s.size) cap2).ownBlock ≠ some b := row_ne2 hown' hb2 hH
  have hF : BW H (w2.setCell ⟨b, 1, none⟩ (.slice ao2 (bs.length + s.size) cap2)) B b x (bs ++ Lib.strCells s) := by
    refine ⟨hB, .pointer (some ⟨b, 0, none⟩), .slice ao2 (bs.length + s.size) cap2, .inr rfl, ?_, ?_, hne'⟩
    · simp [World.setCell, hb2, Array.getElem?_modify]
    · have := ownsRow_setCell_other hown' (a := ⟨b, 1, none⟩) hne' (.slice ao2 (bs.length + s.size) cap2)
      simpa [Lib.strCells] using this
  have hKF : Kp (fun q => B ≤ q) w (w2.setCell ⟨b, 1, none⟩ (.slice ao2 (bs.length + s.size) cap2)) :=
    ((hK1.mono (fun q _ e => by have e : q = b := e; omega)).grown hgrow (fun q e _ => (hown.lt q e).1)).setCell _ _ (fun _ => hB)
  have hKB : KB B b w (w2.setCell ⟨b, 1, none⟩ (.slice ao2 (bs.length + s.size) cap2)) := by
    refine ⟨hKF, fun k cs e f hk he hc => ?_⟩
    have c1 : w1.heap[k]? = some (.cells cs e f) := hK1.blk hc (fun z => hk z)
    have hvk : v.ownBlock ≠ some k := fun z => by
      rcases hown.2 with ⟨rfl, _⟩ | ⟨g, cap, cur, rfl, _, h3, _⟩
      · cases z
      · cases z
        rw [h3] at c1
        simp only [Option.some.injEq, Obj.cells.injEq] at c1
        exact he c1.2.1.symm
    have c2 : w2.heap[k]? = some (.cells cs e f) := by rw [hgrow.block k (lt_of_block c1) (fun z => hvk z.symm)]; exact c1
    rw [← c2]
    simp only [World.setCell]
    rw [Array.getElem?_modify, if_neg (fun z => hk z.symm)]
  clear hown' hgrow hx9 hbk hown hKF
  go_wp2
  exact bodyPost_ret (v := .tuple #[.int .i64 s.size, .nilIface]) (by simp [results, Tryz.results85, go_sem]) rfl ⟨rfl, hF, hKB⟩

end Go.Proofs.YtleenphlgbklmabGreatDoor

namespace Go.Proofs.YtleenphlgbklmabGreatDoor
open Go.RowKit

theorem pblank_any (c : Int) (w : World) : Calls Tryz.prog 119 #[.int .u8 c] w fun e w' => e = .returned (.bool (blI c)) ∧ w' = w := by
  by_cases h1 : c = 32
  · have E : Hid (blI c = true) := by simp [Hid, blI, h1]
    have d1 : (c == 32) = true := by simp [h1]
    clear h1
    go_enter Tryz.func119, Tryz.ntmps119
    go_wp2
    go_ret
    exact ⟨by rw [E.out]; rfl, rfl⟩
  · have d1 : (c == 32) = false := by simp [h1]
    by_cases h2 : c = 10
    · have E : Hid (blI c = true) := by simp [Hid, blI, h2]
      have d2 : (c == 10) = true := by simp [h2]
      clear h1 h2
      go_enter Tryz.func119, Tryz.ntmps119
      go_wp2
      go_ret
      exact ⟨by rw [E.out]; rfl, rfl⟩
    · have E : Hid (blI c = false) := by simp [Hid, blI, h1, h2]
      have d2 : (c == 10) = false := by simp [h2]
      clear h1 h2
      go_enter Tryz.func119, Tryz.ntmps119
      go_wp2
      go_ret
      exact ⟨by rw [E.out]; rfl, rfl⟩
theorem pletter_any (c : Int) (w : World) : Calls Tryz.prog 137 #[.int .u8 c] w fun e w' => e = .returned (.bool (lowI c)) ∧ w' = w := by
  by_cases h1 : 97 ≤ c
  · by_cases h2 : c ≤ 122
    · have e : lowI c = true := by simp [lowI, h1, h2]
      rw [e]
      clear e
      go_enter Tryz.func137, Tryz.ntmps137
      go_wp2
      go_ret
      exact ⟨rfl, rfl⟩
    · have e : lowI c = false := by simp [lowI]; omega
      rw [e]
      clear e
      go_enter Tryz.func137, Tryz.ntmps137
      go_wp2
      go_ret
      exact ⟨rfl, rfl⟩
  · have e : lowI c = false := by simp [lowI]; omega
    rw [e]
    clear e
    go_enter Tryz.func137, Tryz.ntmps137
    go_wp2
    go_ret
    exact ⟨rfl, rfl⟩
theorem pdigit_any (c : Int) (w : World) : Calls Tryz.prog 154 #[.int .u8 c] w fun e w' => e = .returned (.bool (figI c)) ∧ w' = w := by
  by_cases h1 : 48 ≤ c
  · by_cases h2 : c ≤ 57
    · have e : figI c = true := by simp [figI, h1, h2]
      rw [e]
      clear e
      go_enter Tryz.func154, Tryz.ntmps154
      go_wp2
      go_ret
      exact ⟨rfl, rfl⟩
    · have e : figI c = false := by simp [figI]; omega
      rw [e]
      clear e
      go_enter Tryz.func154, Tryz.ntmps154
      go_wp2
      go_ret
      exact ⟨rfl, rfl⟩
  · have e : figI c = false := by simp [figI]; omega
    rw [e]
    clear e
    go_enter Tryz.func154, Tryz.ntmps154
    go_wp2
    go_ret
    exact ⟨rfl, rfl⟩
theorem pld_any (c : Int) (w : World) : Calls Tryz.prog 138 #[.int .u8 c] w fun e w' => e = .returned (.bool (lfI c)) ∧ w' = w := by
  have e : Hid (lfI c = (lowI c || figI c)) := rfl
  have HL : Hid _ := pletter_any c w
  have HD : Hid _ := pdigit_any c w
  cases l1 : lowI c <;> cases l2 : figI c
  all_goals
    have E : Hid _ := e.out
    rw [l1, l2] at E
    rw [l1] at HL
    rw [l2] at HD
    go_enter Tryz.func138, Tryz.ntmps138
    go_wp2_with (first | (go_at_call 137; refine Calls.mono HL.out ?_; rintro e w' ⟨rfl, hww⟩; rw [hww]; clear hww w') | (go_at_call 154; refine Calls.mono HD.out ?_; rintro e w' ⟨rfl, hww⟩; rw [hww]; clear hww w'))
    go_ret
    exact ⟨by rw [E.out]; rfl, rfl⟩

set_option maxHeartbeats 1000000 in
theorem lead_blank (t : ByteArray) (ht : t.size ≤ 300) (w : World) : Calls Tryz.prog 118 #[.string t, .func (Fn.func 119) #[] #[]] w fun e w' => e = .returned (.int .i64 (run blI t 0 : Nat)) ∧ w' = w := by
  go_enter Tryz.func118, Tryz.ntmps118
  go_wp2
  go_loop [5] (fun v => ∃ j : Nat, v = .int .i64 j ∧ j ≤ t.size ∧ run blI t j = run blI t 0) (fun v => t.size - (intOf v).toNat)
  case atStart => exact ⟨0, rfl, Nat.zero_le _, rfl⟩
  case round =>
    obtain ⟨j, rfl, hj, hrj⟩ := hrel
    have HR : Hid (run blI t j = run blI t 0) := hrj
    clear hrj
    by_cases hlt : j < t.size
    · have hc := chr_eq t j hlt
      have hst := run_step blI t j hlt
      have hsp := run_stop blI t j
      have HC : Hid _ := pblank_any (chr t j) w
      cases hp : blI (chr t j)
      · have E : Hid (j = run blI t 0) := by show _ = _; rw [← HR.out, hsp (fun _ => hp)]
        rw [hp] at HC
        clear hst hsp HR hp
        go_wp2_with (go_at_call 119; refine Calls.mono HC.out ?_; rintro e w' ⟨rfl, hww⟩; rw [hww]; clear hww w')
        go_ret
        exact ⟨by rw [← E.out]; rfl, rfl⟩
      · have E : Hid (run blI t (j + 1) = run blI t 0) := by show _ = _; rw [← hst hp]; exact HR.out
        rw [hp] at HC
        clear hst hsp HR hp
        go_wp2_with (go_at_call 119; refine Calls.mono HC.out ?_; rintro e w' ⟨rfl, hww⟩; rw [hww]; clear hww w')
        go_round
        case rel => exact ⟨j + 1, by go_num, by omega, E.out⟩
        case measure => simp [intOf]; omega
    · have E : Hid (j = run blI t 0) := by show _ = _; rw [← HR.out, run_stop blI t j (fun h => absurd h hlt)]
      clear HR
      go_wp2
      go_ret
      exact ⟨by rw [← E.out]; rfl, rfl⟩
set_option maxHeartbeats 1000000 in
theorem lead_ld (t : ByteArray) (ht : t.size ≤ 300) (w : World) : Calls Tryz.prog 118 #[.string t, .func (Fn.func 138) #[] #[]] w fun e w' => e = .returned (.int .i64 (run lfI t 0 : Nat)) ∧ w' = w := by
  go_enter Tryz.func118, Tryz.ntmps118
  go_wp2
  go_loop [5] (fun v => ∃ j : Nat, v = .int .i64 j ∧ j ≤ t.size ∧ run lfI t j = run lfI t 0) (fun v => t.size - (intOf v).toNat)
  case atStart => exact ⟨0, rfl, Nat.zero_le _, rfl⟩
  case round =>
    obtain ⟨j, rfl, hj, hrj⟩ := hrel
    have HR : Hid (run lfI t j = run lfI t 0) := hrj
    clear hrj
    by_cases hlt : j < t.size
    · have hc := chr_eq t j hlt
      have hst := run_step lfI t j hlt
      have hsp := run_stop lfI t j
      have HC : Hid _ := pld_any (chr t j) w
      cases hp : lfI (chr t j)
      · have E : Hid (j = run lfI t 0) := by show _ = _; rw [← HR.out, hsp (fun _ => hp)]
        rw [hp] at HC
        clear hst hsp HR hp
        go_wp2_with (go_at_call 138; refine Calls.mono HC.out ?_; rintro e w' ⟨rfl, hww⟩; rw [hww]; clear hww w')
        go_ret
        exact ⟨by rw [← E.out]; rfl, rfl⟩
      · have E : Hid (run lfI t (j + 1) = run lfI t 0) := by show _ = _; rw [← hst hp]; exact HR.out
        rw [hp] at HC
        clear hst hsp HR hp
        go_wp2_with (go_at_call 138; refine Calls.mono HC.out ?_; rintro e w' ⟨rfl, hww⟩; rw [hww]; clear hww w')
        go_round
        case rel => exact ⟨j + 1, by go_num, by omega, E.out⟩
        case measure => simp [intOf]; omega
    · have E : Hid (j = run lfI t 0) := by show _ = _; rw [← HR.out, run_stop lfI t j (fun h => absurd h hlt)]
      clear HR
      go_wp2
      go_ret
      exact ⟨by rw [← E.out]; rfl, rfl⟩
set_option maxHeartbeats 1000000 in
theorem lead_digit (t : ByteArray) (ht : t.size ≤ 300) (w : World) : Calls Tryz.prog 118 #[.string t, .func (Fn.func 154) #[] #[]] w fun e w' => e = .returned (.int .i64 (run figI t 0 : Nat)) ∧ w' = w := by
  go_enter Tryz.func118, Tryz.ntmps118
  go_wp2
  go_loop [5] (fun v => ∃ j : Nat, v = .int .i64 j ∧ j ≤ t.size ∧ run figI t j = run figI t 0) (fun v => t.size - (intOf v).toNat)
  case atStart => exact ⟨0, rfl, Nat.zero_le _, rfl⟩
  case round =>
    obtain ⟨j, rfl, hj, hrj⟩ := hrel
    have HR : Hid (run figI t j = run figI t 0) := hrj
    clear hrj
    by_cases hlt : j < t.size
    · have hc := chr_eq t j hlt
      have hst := run_step figI t j hlt
      have hsp := run_stop figI t j
      have HC : Hid _ := pdigit_any (chr t j) w
      cases hp : figI (chr t j)
      · have E : Hid (j = run figI t 0) := by show _ = _; rw [← HR.out, hsp (fun _ => hp)]
        rw [hp] at HC
        clear hst hsp HR hp
        go_wp2_with (go_at_call 154; refine Calls.mono HC.out ?_; rintro e w' ⟨rfl, hww⟩; rw [hww]; clear hww w')
        go_ret
        exact ⟨by rw [← E.out]; rfl, rfl⟩
      · have E : Hid (run figI t (j + 1) = run figI t 0) := by show _ = _; rw [← hst hp]; exact HR.out
        rw [hp] at HC
        clear hst hsp HR hp
        go_wp2_with (go_at_call 154; refine Calls.mono HC.out ?_; rintro e w' ⟨rfl, hww⟩; rw [hww]; clear hww w')
        go_round
        case rel => exact ⟨j + 1, by go_num, by omega, E.out⟩
        case measure => simp [intOf]; omega
    · have E : Hid (j = run figI t 0) := by show _ = _; rw [← HR.out, run_stop figI t j (fun h => absurd h hlt)]
      clear HR
      go_wp2
      go_ret
      exact ⟨by rw [← E.out]; rfl, rfl⟩

/-- the bytes of what is left of a text. -/
theorem chr_rest (s : ByteArray) (k j : Nat) (hk : k ≤ s.size) : chr (s.extract k s.size) j = chr s (k + j) := by
  unfold chr
  by_cases h : k + j < s.size
  · have h2 : j < (s.extract k s.size).size := by simp [ByteArray.size_extract]; omega
    rw [dif_pos h2, dif_pos h]
    simp [ByteArray.getElem_extract]
  · have h2 : ¬ j < (s.extract k s.size).size := by simp [ByteArray.size_extract]; omega
    rw [dif_neg h2, dif_neg h]
theorem runF_rest (p : Int → Bool) (s : ByteArray) (k : Nat) (hk : k ≤ s.size) : ∀ f j, k + runF p (s.extract k s.size) f j = runF p s f (k + j)
  | 0, j => rfl
  | f + 1, j => by
    have hz : (s.extract k s.size).size = s.size - k := by simp [ByteArray.size_extract]
    rw [runF, runF, chr_rest s k j hk, hz]
    by_cases h : j < s.size - k ∧ p (chr s (k + j)) = true
    · rw [if_pos h, if_pos ⟨by omega, h.2⟩]
      exact runF_rest p s k hk f (j + 1)
    · rw [if_neg h, if_neg (fun q => h ⟨by omega, q.2⟩)]
theorem run_rest (p : Int → Bool) (s : ByteArray) (k : Nat) (hk : k ≤ s.size) : k + run p (s.extract k s.size) 0 = run p s k := by
  have hz : (s.extract k s.size).size = s.size - k := by simp [ByteArray.size_extract]
  unfold run
  rw [hz]
  have := runF_rest p s k hk (s.size - k) 0
  simpa using this
end Go.Proofs.YtleenphlgbklmabGreatDoor

namespace Go.Proofs.YtleenphlgbklmabGreatDoor
open Go.RowKit

theorem sign_idx (b : UInt8) : decide (0 ≤ Lib.indexByte [61, 40, 41, 44, 91, 93] b) = isSign (b.toNat : Int) := by
  by_cases h1 : b = 61
  · subst h1; rfl
  by_cases h2 : b = 40
  · subst h2; rfl
  by_cases h3 : b = 41
  · subst h3; rfl
  by_cases h4 : b = 44
  · subst h4; rfl
  by_cases h5 : b = 91
  · subst h5; rfl
  by_cases h6 : b = 93
  · subst h6; rfl
  have e : ∀ k : UInt8, b ≠ k → (k == b) = false := fun k hk => by simp; exact fun q => hk q.symm
  have n : ∀ k : UInt8, b ≠ k → ¬ ((b.toNat : Int) = (k.toNat : Int)) := fun k hk q => hk (UInt8.toNat_inj.1 (by omega))
  have m1 := n 61 h1
  have m2 := n 40 h2
  have m3 := n 41 h3
  have m4 := n 44 h4
  have m5 := n 91 h5
  have m6 := n 93 h6
  simp only [Lib.indexByte, e 61 h1, e 40 h2, e 41 h3, e 44 h4, e 91 h5, e 93 h6]
  simp only [isSign]
  simp at m1 m2 m3 m4 m5 m6
  simp
  omega
theorem sibs_any (s : ByteArray) (c : Int) (w : World) : Calls Tryz.prog 172 #[.string s, .int .u8 c] w fun e w' => e = .returned (.int .i64 (Lib.indexByte s.data.toList c.toNat.toUInt8)) ∧ w' = w := by
  have hx := @run_callFunc_extern Tryz.prog 196 _ Extern.BytealgIndexByte.indexByte Tryz.func196 (by kernel_rfl) (by kernel_rfl) (by kernel_rfl) (by kernel_rfl)
  have hr := Lib.run_indexByteString (P := Tryz.prog) s c w
  generalize Lib.indexByte s.data.toList c.toNat.toUInt8 = r at *
  go_enter Tryz.func172, Tryz.ntmps172
  go_wp2
  go_ret
  exact ⟨rfl, rfl⟩
set_option maxHeartbeats 1000000 in
theorem shp_any (s p : ByteArray) (w : World) (hs : s.size ≤ 300) (hp : p.size ≤ 300) : Calls Tryz.prog 171 #[.string s, .string p] w fun e w' => e = .returned (.bool (decide (p.size ≤ s.size) && ((s.extract 0 p.size).toList == p.toList))) ∧ w' = w := by
  by_cases h : p.size ≤ s.size
  · have hd : decide (p.size ≤ s.size) = true := by simp [h]
    rw [hd]
    cases hq : ((s.extract 0 p.size).toList == p.toList)
    all_goals
      go_enter Tryz.func171, Tryz.ntmps171
      go_wp2
      go_ret
      exact ⟨rfl, rfl⟩
  · have hd : decide (p.size ≤ s.size) = false := by simp; omega
    rw [hd]
    go_enter Tryz.func171, Tryz.ntmps171
    go_wp2
    go_ret
    exact ⟨rfl, rfl⟩
theorem pre2 (t : ByteArray) (h : 2 ≤ t.size) : ((t.extract 0 2).toList == [45, 62]) = (decide (chr t 0 = 45) && decide (chr t 1 = 62)) := by
  have hl : (t.extract 0 2).toList = [t[0], t[1]] := by
    rw [ByteArray.toList_eq]
    apply List.ext_getElem
    · simp [ByteArray.size_extract] ; omega
    · intro i h1 h2
      have hi : i = 0 ∨ i = 1 := by simp at h2; omega
      rcases hi with rfl | rfl <;> simp [ByteArray.data_extract] <;> rfl
  rw [hl, chr, chr, dif_pos (by omega), dif_pos (by omega)]
  have e : ∀ (b : UInt8) (k : Nat), k < 256 → ((b == UInt8.ofNat k) = decide ((b.toNat : Int) = (k : Int))) := fun b k hk => by
    by_cases q : b = UInt8.ofNat k
    · subst q
      simp [UInt8.toNat_ofNat', Nat.mod_eq_of_lt hk]
    · have : ¬ ((b.toNat : Int) = (k : Int)) := fun z => q (UInt8.toNat_inj.1 (by rw [UInt8.toNat_ofNat', Nat.mod_eq_of_lt hk]; omega))
      simp [q, this]
  have e1 := e t[0] 45 (by decide)
  have e2 := e t[1] 62 (by decide)
  have e3 : ([t[0], t[1]] == ([45, 62] : List UInt8)) = ((t[0] == UInt8.ofNat 45) && (t[1] == UInt8.ofNat 62)) := by
    show ((t[0] == 45) && ((t[1] == 62) && true)) = _
    rw [Bool.and_true]
    rfl
  rw [e3, e1, e2]
  rfl

set_option maxRecDepth 20000 in
set_option maxHeartbeats 2000000 in
theorem signlen_any (t : ByteArray) (ht : t.size ≤ 300) (h0 : 0 < t.size) (w : World) :
    Calls Tryz.prog 155 #[.string t] w fun e w' => e = .returned (.int .i64 (if chr t 0 = 45 ∧ 1 < t.size ∧ chr t 1 = 62 then 2 else if isSign (chr t 0) then 1 else 0)) ∧ w' = w := by
  have HP : Hid _ := shp_any t { data := #[45, 62] } w ht (by decide)
  have hp : (decide ((({ data := #[45, 62] } : ByteArray).size) ≤ t.size) && ((t.extract 0 (({ data := #[45, 62] } : ByteArray).size)).toList == ({ data := #[45, 62] } : ByteArray).toList)) = decide (chr t 0 = 45 ∧ 1 < t.size ∧ chr t 1 = 62) := by
    rw [show (({ data := #[45, 62] } : ByteArray).size) = 2 from rfl, show ({ data := #[45, 62] } : ByteArray).toList = [45, 62] from by rw [ByteArray.toList_eq]]
    by_cases h2 : 2 ≤ t.size
    · rw [pre2 t h2]
      have : 1 < t.size := by omega
      simp [this, h2]
    · have : ¬ 1 < t.size := by omega
      simp [this, h2]
  rw [hp] at HP
  clear hp
  have HI : Hid _ := sibs_any { data := #[61, 40, 41, 44, 91, 93] } (chr t 0) w
  have hc := chr_eq t 0 h0
  have hsi : decide (0 ≤ Lib.indexByte [61, 40, 41, 44, 91, 93] (chr t 0).toNat.toUInt8) = isSign (chr t 0) := by
    have := sign_idx t[0]
    rw [hc] at this
    rw [← this, ← hc]
    simp
  by_cases hA : chr t 0 = 45 ∧ 1 < t.size ∧ chr t 1 = 62
  · have hd : decide (chr t 0 = 45 ∧ 1 < t.size ∧ chr t 1 = 62) = true := by simp [hA]
    rw [hd] at HP
    rw [if_pos hA]
    clear hA hsi HI hd
    go_enter Tryz.func155, Tryz.ntmps155
    go_wp2_with fail
    refine Calls.mono HP.out ?_
    rintro e w' ⟨rfl, hww⟩
    rw [hww]
    clear hww w'
    go_wp2
    go_ret
    exact ⟨rfl, rfl⟩
  · have hd : decide (chr t 0 = 45 ∧ 1 < t.size ∧ chr t 1 = 62) = false := by simp [hA]
    rw [hd] at HP
    rw [if_neg hA]
    clear hA hd
    have HI2 : Hid (Calls Tryz.prog 172 #[.string { data := #[61, 40, 41, 44, 91, 93] }, .int .u8 (chr t 0)] w fun e w' => e = .returned (.int .i64 (Lib.indexByte [61, 40, 41, 44, 91, 93] (chr t 0).toNat.toUInt8)) ∧ w' = w) := HI.out
    clear HI
    generalize Lib.indexByte [61, 40, 41, 44, 91, 93] (chr t 0).toNat.toUInt8 = r at *
    cases hs : isSign (chr t 0)
    all_goals
      rw [hs] at hsi
      go_enter Tryz.func155, Tryz.ntmps155
      go_wp2_with fail
      refine Calls.mono HP.out ?_
      rintro e w' ⟨rfl, hww⟩
      rw [hww]
      clear hww w'
      go_wp2_with fail
      refine Calls.mono HI2.out ?_
      rintro e w' ⟨rfl, hww⟩
      rw [hww]
      clear hww w'
      go_wp2
      go_ret
      exact ⟨rfl, rfl⟩
end Go.Proofs.YtleenphlgbklmabGreatDoor
