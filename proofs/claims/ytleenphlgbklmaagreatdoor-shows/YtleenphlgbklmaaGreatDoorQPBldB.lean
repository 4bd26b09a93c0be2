import Derived.Test.YtleenphlgbklmaaGreatDoorQPBld
set_option linter.unusedVariables false
set_option linter.unusedSimpArgs false
namespace Go.Proofs.YtleenphlgbklmaaGreatDoor
open Go.RowKit

/-- but for a builder and for bytes all that lay there is as it was; and all below B. -/
structure KB (B b : Nat) (w w' : World) : Prop where
  kp : Kp (fun q => B ≤ q) w w'
  oth : ∀ k cs e f, k ≠ b → e ≠ 5 → w.heap[k]? = some (.cells cs e f) → w'.heap[k]? = some (.cells cs e f)
theorem KB.refl (B b : Nat) (w : World) : KB B b w w := ⟨Kp.refl _ _, fun _ _ _ _ _ _ h => h⟩
theorem KB.trans {B b : Nat} {x y z : World} (h : KB B b x y) (k : KB B b y z) : KB B b x z := ⟨h.kp.trans k.kp, fun q cs e f h1 h2 h3 => k.oth q cs e f h1 h2 (h.oth q cs e f h1 h2 h3)⟩
theorem KB.alloc (B b : Nat) (w : World) (o : Obj) : KB B b w (w.alloc o) := ⟨(Kp.refl _ _).alloc _, fun q cs e f _ _ h => ((Kp.refl (fun _ => False) w).alloc o).blk h (fun z => z)⟩
theorem KB.drewN {B b : Nat} {w w' : World} (h : KB B b w w') (n : Nat) : KB B b w (w'.drewN n) := ⟨h.kp.drewN n, h.oth⟩
set_option maxRecDepth 100000 in
set_option maxHeartbeats 1000000 in
theorem bws2_any (H : TypeId) (hl : liesAt Tryz.prog Tryz.prog.depth H (3 / Tryz.prog.cellsOf H) 0 185 1 = true) (hH : H ≠ 5) (B b : Nat) (x : Value) (bs : List Value) (s : ByteArray) (w : World) (h : BW H w B b x bs) (hlen : bs.length + s.size ≤ 1000000000) :
    Calls Tryz.prog 147 #[.pointer (some ⟨b, 0, none⟩), .string s] w fun e w' => e = .returned (.tuple #[.int .i64 s.size, .nilIface]) ∧ BW H w' B b x (bs ++ Lib.strCells s) ∧ KB B b w w' := by
  obtain ⟨i0, hi, hz0, hz1, hz2⟩ := info_parts Tryz.info5
  have hB := h.1
  have HC : Hid _ := bcc_any H hl B b x bs w h
  have hlt0 : b < w.heap.size := by obtain ⟨_, p, v, _, hb, _⟩ := h; exact lt_of_block hb
  clear h
  go_enter Tryz.func147, Tryz.ntmps147
  go_wp2_with fail
  refine Calls.mono HC.out ?_
  rintro e w1 ⟨rfl, hK1, v, hbk, hown, hne⟩
  have c1 : w1.cell? ⟨b, 1, none⟩ = some v := by simp [World.cell?, hbk]
  have hs1 := hK1.size
  clear HC
  go_wp2_with (at_builtin; refine Lib.wpList_append_own_string _ rfl _ _ 153 9 rfl B 5 i0 Tryz.underlying153 Tryz.underlying9 hi hz0 hz1 hz2 _ _ _ rfl hown s rfl (by unfold maxLen; omega) (by omega) (by omega) ?_)
  intro v' w2 hown' hgrow hx9
  obtain ⟨ao2, cap2, rfl⟩ : ∃ ao cap, v' = .slice ao (bs.length + s.size) cap := by
    rcases hown'.2 with ⟨e1, e2⟩ | ⟨g, cap, cur, e1, _⟩
    · exact ⟨none, 0, by rw [e1, e2]⟩
    · exact ⟨_, cap, e1⟩
  have hlt := lt_of_block hbk
  have hb2 : w2.heap[b]? = some (.cells #[.pointer (some ⟨b, 0, none⟩), v, x] H (0, 0)) := by
    rw [hgrow.block b hlt (fun e => hne e.symm)]
    exact hbk
  have d1 : w2.cell? ⟨b, 1, none⟩ = some v := by simp [World.cell?, hb2]
  have f1 : w2.frozen? ⟨b, 1, none⟩ = false := by simp [World.frozen?, hb2]
  have hne' : (Value.slice ao2 (bs.length + s.size) cap2).ownBlock ≠ some b := row_ne2 hown' hb2 hH
  have hF : BW H (w2.setCell ⟨b, 1, none⟩ (.slice ao2 (bs.length + s.size) cap2)) B b x (bs ++ Lib.strCells s) := by
    refine ⟨hB, .pointer (some ⟨b, 0, none⟩), .slice ao2 (bs.length + s.size) cap2, .inr rfl, ?_, ?_, hne'⟩
    · simp [World.setCell, hb2, Array.getElem?_modify]
    · have := ownsRow_setCell_other hown' (a := ⟨b, 1, none⟩) hne' (.slice ao2 (bs.length + s.size) cap2)
      simpa [Lib.strCells] using this
  have hKF : Kp (fun q => B ≤ q) w (w2.setCell ⟨b, 1, none⟩ (.slice ao2 (bs.length + s.size) cap2)) :=
    ((hK1.mono (fun q _ e => by have e : q = b := e; omega)).grown hgrow (fun q e _ => (hown.lt q e).1)).setCell _ _ (fun _ => hB)
  have hKB : KB B b w (w2.setCell ⟨b, 1, none⟩ (.slice ao2 (bs.length + s.size) cap2)) := by
    refine ⟨hKF, fun k cs e f hk he hc => ?_⟩
    have c1 : w1.heap[k]? = some (.cells cs e f) := hK1.blk hc (fun z => hk z)
    have hvk : v.ownBlock ≠ some k := fun z => by
      rcases hown.2 with ⟨rfl, _⟩ | ⟨g, cap, cur, rfl, _, h3, _⟩
      · cases z
      · cases z
        rw [h3] at c1
        simp only [Option.some.injEq, Obj.cells.injEq] at c1
        exact he c1.2.1.symm
    have c2 : w2.heap[k]? = some (.cells cs e f) := by rw [hgrow.block k (lt_of_block c1) (fun z => hvk z.symm)]; exact c1
    rw [← c2]
    simp only [World.setCell]
    rw [Array.getElem?_modify, if_neg (fun z => hk z.symm)]
  clear hown' hgrow hx9 hbk hown hKF
  go_wp2
  exact bodyPost_ret (v := .tuple #[.int .i64 s.size, .nilIface]) (by simp [results, Tryz.results147, go_sem]) rfl ⟨rfl, hF, hKB⟩

end Go.Proofs.YtleenphlgbklmaaGreatDoor
