import Derived.Test.YtleenphlgbklmabGreatDoorZPMq
set_option linter.unusedVariables false
set_option linter.unusedSimpArgs false
namespace Go.Proofs.YtleenphlgbklmabGreatDoor
open Go.RowKit

def watA (wb ob mb fb sb : Nat) : Value := .func (.func 28) #[] #[.pointer (some ⟨wb, 0, none⟩), .pointer (some ⟨ob, 0, none⟩), .pointer (some ⟨mb, 0, none⟩), .pointer (some ⟨fb, 0, none⟩), .pointer (some ⟨sb, 0, none⟩)]
/-- what plain.Watch asks of infer.Watch. -/
def WtH (A : Nat → Addr) (B : Nat) (s : ByteArray) (fl stop : Nat) (t : ByteArray) (o : List Rdt) (what loc : Int) (ss : ByteArray) : Prop := ∀ (W : World) (em wb ob mb fb sb : Nat), GA A B [] W → WK B wb ob sb stop W [] → SM W em [] → Calls Tryz.prog 27 #[.string s, .map (some em), .int .i64 fl, watA wb ob mb fb sb] W fun e w' => ∃ er, e = .returned (.tuple #[.string t, er]) ∧ (er = .nilIface ∨ ∃ T u, er = .iface T u) ∧ Hid (Kw B [] W w' ∧ WK B wb ob sb stop w' o ∧ ∀ w2, Kept w' w2 → Calls Tryz.prog 22 #[er] w2 fun e w'' => e = .returned (faultVal what loc ss) ∧ Kept w2 w'')
def wtD (rv : Value) (t : ByteArray) (what loc : Int) (ss : ByteArray) : Array Value := #[rv, .string t, .int .i64 what, .int .i64 loc, .string ss, .int .i64 0, .int .i64 0, .bool false, .slice none 0 0, .slice none 0 0]
/-- what plain.Watch has, at its end. -/
structure PFn (w : World) (N wb : Nat) (rv : Value) (o : List Rdt) (ps : List Rpt) (cs : Array Value) (wx : World) : Prop where
  wc : wx.heap[wb]? = some (.cells cs 36 (0, 0))
  rr : wx.heap[w.heap.size + 1 + 1 + 1]? = some (.cells (wtC (.slice none 0 0)) 36 (0, 0))
  ow : wx.ownsRow N 39 3 rv o.length (rdCs o ps)
  rw : ∀ j (h : j < o.length) (h2 : j < ps.length), SRw wx ps[j].1 o[j].1 ∧ SRw wx ps[j].2.2.1 o[j].2.2
  kp : Kept w wx
theorem PFn.kept {w : World} {N wb : Nat} {rv : Value} {o : List Rdt} {ps : List Rpt} {cs : Array Value} {wx wy : World} (h : PFn w N wb rv o ps cs wx) (k : Kept wx wy) : PFn w N wb rv o ps cs wy := ⟨k.blk h.wc, k.blk h.rr, ownsRow_same h.ow (fun q hq => k.block q (h.ow.lt q hq).2), fun j a b => ⟨(h.rw j a b).1.kept k, (h.rw j a b).2.kept k⟩, h.kp.trans k⟩
theorem PFn.set {w : World} {N wb : Nat} {rv : Value} {o : List Rdt} {ps : List Rpt} {cs : Array Value} {wx wy : World} (h : PFn w N wb rv o ps cs wx) (hN : w.heap.size + 1 + 1 + 1 < N) (hwb : N ≤ wb) (ho : wy.os = wx.os) (hou : wy.output = wx.output) (hs : wy.heap.size = wx.heap.size) (hq : ∀ q, q ≠ wb → wy.heap[q]? = wx.heap[q]?) {ds : Array Value} (hd : wy.heap[wb]? = some (.cells ds 36 (0, 0))) : PFn w N wb rv o ps ds wy := by
  have srw : ∀ g l, SRw wx g l → SRw wy g l := fun g l ⟨cs', h1, h2⟩ => ⟨cs', (hq g (fun z => by rw [z, h.wc] at h1; cases h1)).trans h1, h2⟩
  refine ⟨hd, (hq _ (by omega)).trans h.rr, ownsRow_same h.ow (fun q hq' => hq q (fun z => ?_)), fun j a b => ⟨srw _ _ (h.rw j a b).1, srw _ _ (h.rw j a b).2⟩, ⟨ho.trans h.kp.os, hou.trans h.kp.output, by rw [hs]; exact h.kp.size, fun q hq' => (hq q (by omega)).trans (h.kp.block q hq')⟩⟩
  obtain ⟨_, cs', hc⟩ := own_blk h.ow hq'
  rw [z, h.wc] at hc
  cases hc
theorem PFn.put {w : World} {N wb : Nat} {rv : Value} {o : List Rdt} {ps : List Rpt} {cs : Array Value} {wx : World} (h : PFn w N wb rv o ps cs wx) (hN : w.heap.size + 1 + 1 + 1 < N) (hwb : N ≤ wb) (j : Nat) (v : Value) : PFn w N wb rv o ps (cs.setIfInBounds j v) (wx.setCell ⟨wb, j, none⟩ v) :=
  PFn.set (wy := wx.setCell ⟨wb, j, none⟩ v) h hN hwb rfl rfl (by simp) (fun q hq => Below.heap_setCell _ _ _ q (fun z => hq z)) (by simp [World.setCell, h.wc, Array.getElem?_modify])
theorem wtD_set {w u3 : World} {N wb : Nat} {rv : Value} {o : List Rdt} {ps : List Rpt} {t ss : ByteArray} {what loc : Int} (h : PFn w N wb rv o ps (wtC rv) u3) (hN : w.heap.size + 1 + 1 + 1 < N) (hwb : N ≤ wb) : PFn w N wb rv o ps (wtD rv t what loc ss) (((((((u3.setCell ⟨wb, 1, none⟩ (.string t)).setCell ⟨wb, 2, none⟩ (.int .i64 what)).setCell ⟨wb, 3, none⟩ (.int .i64 loc)).setCell ⟨wb, 4, none⟩ (.string ss)).setCell ⟨wb, 5, none⟩ (.int .i64 0)).setCell ⟨wb, 6, none⟩ (.int .i64 0)).setCell ⟨wb, 7, none⟩ (.bool false)) := by
  have r := ((((((h.put hN hwb 1 (.string t)).put hN hwb 2 (.int .i64 what)).put hN hwb 3 (.int .i64 loc)).put hN hwb 4 (.string ss)).put hN hwb 5 (.int .i64 0)).put hN hwb 6 (.int .i64 0)).put hN hwb 7 (.bool false)
  have e : (((((((wtC rv).setIfInBounds 1 (.string t)).setIfInBounds 2 (.int .i64 what)).setIfInBounds 3 (.int .i64 loc)).setIfInBounds 4 (.string ss)).setIfInBounds 5 (.int .i64 0)).setIfInBounds 6 (.int .i64 0)).setIfInBounds 7 (.bool false) = wtD rv t what loc ss := by
    simp [wtC, wtD]
  rw [e] at r
  exact r
/-- what plain.Watch has as its answer lies in memory. -/
structure PFe (w : World) (N : Nat) (rv : Value) (o : List Rdt) (ps : List Rpt) (cs : Array Value) (wx : World) : Prop where
  rr : wx.heap[w.heap.size + 1 + 1 + 1]? = some (.cells cs 36 (0, 0))
  ow : wx.ownsRow N 39 3 rv o.length (rdCs o ps)
  rw : ∀ j (h : j < o.length) (h2 : j < ps.length), SRw wx ps[j].1 o[j].1 ∧ SRw wx ps[j].2.2.1 o[j].2.2
  kp : Kept w wx
theorem PFe.put {w : World} {N : Nat} {rv : Value} {o : List Rdt} {ps : List Rpt} {cs : Array Value} {wx : World} (h : PFe w N rv o ps cs wx) (j : Nat) (v : Value) : PFe w N rv o ps (cs.setIfInBounds j v) (wx.setCell ⟨w.heap.size + 1 + 1 + 1, j, none⟩ v) := by
  have hq : ∀ q, q ≠ w.heap.size + 1 + 1 + 1 → (wx.setCell ⟨w.heap.size + 1 + 1 + 1, j, none⟩ v).heap[q]? = wx.heap[q]? := fun q hq => Below.heap_setCell _ _ _ q (fun z => hq z)
  have srw : ∀ g l, SRw wx g l → SRw (wx.setCell ⟨w.heap.size + 1 + 1 + 1, j, none⟩ v) g l := fun g l ⟨cs', h1, h2⟩ => ⟨cs', (hq g (fun z => by rw [z, h.rr] at h1; cases h1)).trans h1, h2⟩
  refine ⟨by simp [World.setCell, h.rr, Array.getElem?_modify], ownsRow_same h.ow (fun q hq' => hq q (fun z => ?_)), fun j a b => ⟨srw _ _ (h.rw j a b).1, srw _ _ (h.rw j a b).2⟩, h.kp.putc (by omega) j v⟩
  obtain ⟨_, cs', hc⟩ := own_blk h.ow hq'
  rw [z, h.rr] at hc
  cases hc
theorem wt_end {w u3 : World} {N wb : Nat} {rv : Value} {o : List Rdt} {ps : List Rpt} {t ss : ByteArray} {what loc : Int} {cs : Array Value} (h : PFn w N wb rv o ps cs u3) : PFe w N rv o ps (wtD rv t what loc ss) ((((((((((u3.setCell ⟨w.heap.size + 1 + 1 + 1, 0, none⟩ rv).setCell ⟨w.heap.size + 1 + 1 + 1, 1, none⟩ (.string t)).setCell ⟨w.heap.size + 1 + 1 + 1, 2, none⟩ (.int .i64 what)).setCell ⟨w.heap.size + 1 + 1 + 1, 3, none⟩ (.int .i64 loc)).setCell ⟨w.heap.size + 1 + 1 + 1, 4, none⟩ (.string ss)).setCell ⟨w.heap.size + 1 + 1 + 1, 5, none⟩ (.int .i64 0)).setCell ⟨w.heap.size + 1 + 1 + 1, 6, none⟩ (.int .i64 0)).setCell ⟨w.heap.size + 1 + 1 + 1, 7, none⟩ (.bool false)).setCell ⟨w.heap.size + 1 + 1 + 1, 8, none⟩ (.slice none 0 0)).setCell ⟨w.heap.size + 1 + 1 + 1, 9, none⟩ (.slice none 0 0)) := by
  have r0 : PFe w N rv o ps (wtC (.slice none 0 0)) u3 := ⟨h.rr, h.ow, h.rw, h.kp⟩
  have r := (((((((((r0.put 0 rv).put 1 (.string t)).put 2 (.int .i64 what)).put 3 (.int .i64 loc)).put 4 (.string ss)).put 5 (.int .i64 0)).put 6 (.int .i64 0)).put 7 (.bool false)).put 8 (.slice none 0 0)).put 9 (.slice none 0 0)
  have e : ((((((((((wtC (.slice none 0 0)).setIfInBounds 0 rv).setIfInBounds 1 (.string t)).setIfInBounds 2 (.int .i64 what)).setIfInBounds 3 (.int .i64 loc)).setIfInBounds 4 (.string ss)).setIfInBounds 5 (.int .i64 0)).setIfInBounds 6 (.int .i64 0)).setIfInBounds 7 (.bool false)).setIfInBounds 8 (.slice none 0 0)).setIfInBounds 9 (.slice none 0 0) = wtD rv t what loc ss := by
    simp [wtC, wtD]
  rw [e] at r
  exact r
theorem wt_ret {R : Ending → World → Prop} {a : Act} {w X : World} {N : Nat} {ao : Option Addr} {n cc : Nat} {o : List Rdt} {ps : List Rpt} {t ss : ByteArray} {what loc : Int} (h : PFe w N (.slice ao n cc) o ps (wtD (.slice ao n cc) t what loc ss) X) (ht : a.tmps[12]? = some (.pointer (some ⟨w.heap.size + 1 + 1 + 1, 0, none⟩))) (hd : a.defers = []) (hR : R (.returned (.agg (wtD (.slice ao n cc) t what loc ss))) X) : bodyPost Tryz.prog Tryz.f13 R .ret a X := by
  have d0 : X.cell? ⟨w.heap.size + 1 + 1 + 1, 0, none⟩ = some (.slice ao n cc) := cell_of h.rr rfl
  have d1 : X.cell? ⟨w.heap.size + 1 + 1 + 1, 1, none⟩ = some (.string t) := cell_of h.rr rfl
  have d2 : X.cell? ⟨w.heap.size + 1 + 1 + 1, 2, none⟩ = some (.int .i64 what) := cell_of h.rr rfl
  have d3 : X.cell? ⟨w.heap.size + 1 + 1 + 1, 3, none⟩ = some (.int .i64 loc) := cell_of h.rr rfl
  have d4 : X.cell? ⟨w.heap.size + 1 + 1 + 1, 4, none⟩ = some (.string ss) := cell_of h.rr rfl
  have d5 : X.cell? ⟨w.heap.size + 1 + 1 + 1, 5, none⟩ = some (.int .i64 0) := cell_of h.rr rfl
  have d6 : X.cell? ⟨w.heap.size + 1 + 1 + 1, 6, none⟩ = some (.int .i64 0) := cell_of h.rr rfl
  have d7 : X.cell? ⟨w.heap.size + 1 + 1 + 1, 7, none⟩ = some (.bool false) := cell_of h.rr rfl
  have d8 : X.cell? ⟨w.heap.size + 1 + 1 + 1, 8, none⟩ = some (.slice none 0 0) := cell_of h.rr rfl
  have d9 : X.cell? ⟨w.heap.size + 1 + 1 + 1, 9, none⟩ = some (.slice none 0 0) := cell_of h.rr rfl
  exact bodyPost_ret (v := .agg (wtD (.slice ao n cc) t what loc ss)) (by simp [results, Tryz.results13, go_sem, wtD, ht, d0, d1, d2, d3, d4, d5, d6, d7, d8, d9]) hd hR
set_option maxRecDepth 20000 in
set_option maxHeartbeats 4000000 in
theorem pl_watch {A : Nat → Addr} {w : World} {s t ss : ByteArray} {fl stop : Nat} {o : List Rdt} {what loc : Int} (hG : Glb A w) (HI : WtH A (w.heap.size + 1 + 1 + 1 + 1) s fl stop t o what loc ss) : Calls Tryz.prog 13 #[.string s, .slice none 0 0, .slice none 0 0, .int .i64 fl, .int .i64 stop, .string { data := #[] }] w fun e w' => ∃ ao cc ps, e = .returned (.agg (wtD (.slice ao o.length cc) t what loc ss)) ∧ ps.length = o.length ∧ w'.ownsRow (w.heap.size + 1 + 1 + 1 + 1) 39 3 (.slice ao o.length cc) o.length (rdCs o ps) ∧ (∀ j (h : j < o.length) (h2 : j < ps.length), SRw w' ps[j].1 o[j].1 ∧ SRw w' ps[j].2.2.1 o[j].2.2) ∧ Kept w w' := by
  have k1 : Kept w (w.alloc (.cells #[.int .i64 fl] 3)) := Kept.alloc _ _
  have k2 := Kept.alloc (w.alloc (.cells #[.int .i64 fl] 3)) (.cells #[.int .i64 stop] 3)
  have k3 := Kept.alloc ((w.alloc (.cells #[.int .i64 fl] 3)).alloc (.cells #[.int .i64 stop] 3)) (.cells #[.string { data := #[] }] 9)
  have k4 := Kept.alloc (((w.alloc (.cells #[.int .i64 fl] 3)).alloc (.cells #[.int .i64 stop] 3)).alloc (.cells #[.string { data := #[] }] 9)) (.cells #[.slice none 0 0, .string { data := #[] }, .int .i64 0, .int .i64 0, .string { data := #[] }, .int .i64 0, .int .i64 0, .bool false, .slice none 0 0, .slice none 0 0] 36)
  have b1 := k4.blk (k3.blk (k2.blk (heap_alloc_new w (.cells #[.int .i64 fl] 3))))
  have b2 := k4.blk (k3.blk (heap_alloc_new (w.alloc (.cells #[.int .i64 fl] 3)) (.cells #[.int .i64 stop] 3)))
  have b3 := k4.blk (heap_alloc_new ((w.alloc (.cells #[.int .i64 fl] 3)).alloc (.cells #[.int .i64 stop] 3)) (.cells #[.string { data := #[] }] 9))
  have b4 := heap_alloc_new (((w.alloc (.cells #[.int .i64 fl] 3)).alloc (.cells #[.int .i64 stop] 3)).alloc (.cells #[.string { data := #[] }] 9)) (.cells #[.slice none 0 0, .string { data := #[] }, .int .i64 0, .int .i64 0, .string { data := #[] }, .int .i64 0, .int .i64 0, .bool false, .slice none 0 0, .slice none 0 0] 36)
  have hk := ((k1.trans k2).trans k3).trans k4
  simp only [World.size_alloc] at b2 b3 b4
  have hI : Hid _ := HI
  have hWz : ((((w.alloc (.cells #[.int .i64 fl] 3)).alloc (.cells #[.int .i64 stop] 3)).alloc (.cells #[.string { data := #[] }] 9)).alloc (.cells #[.slice none 0 0, .string { data := #[] }, .int .i64 0, .int .i64 0, .string { data := #[] }, .int .i64 0, .int .i64 0, .bool false, .slice none 0 0, .slice none 0 0] 36)).heap.size = w.heap.size + 1 + 1 + 1 + 1 := by simp only [World.size_alloc]
  have HGA : Hid (GA A (w.heap.size + 1 + 1 + 1 + 1) [] ((((w.alloc (.cells #[.int .i64 fl] 3)).alloc (.cells #[.int .i64 stop] 3)).alloc (.cells #[.string { data := #[] }] 9)).alloc (.cells #[.slice none 0 0, .string { data := #[] }, .int .i64 0, .int .i64 0, .string { data := #[] }, .int .i64 0, .int .i64 0, .bool false, .slice none 0 0, .slice none 0 0] 36))) := by
    have := GA.start (hG.kept hk)
    rw [hWz] at this
    exact this
  have HHG : Hid _ := hG
  clear hG
  clear HI k1 k2 k3 k4
  go_enter Tryz.func13, Tryz.ntmps13
  go_wp2_with fail
  generalize (((w.alloc (.cells #[.int .i64 fl] 3)).alloc (.cells #[.int .i64 stop] 3)).alloc (.cells #[.string { data := #[] }] 9)).alloc (.cells #[.slice none 0 0, .string { data := #[] }, .int .i64 0, .int .i64 0, .string { data := #[] }, .int .i64 0, .int .i64 0, .bool false, .slice none 0 0, .slice none 0 0] 36) = W at *
  refine Calls.mono (env_sx (w := W) (kv := []) ⟨none, 0, 0, rfl, fun q x hx => by simp at hx⟩ ⟨none, 0, 0, rfl, fun q x hx => by simp at hx⟩ List.nodup_nil (by simp)) ?_
  rintro e w1 ⟨m1, rfl, hs1, hk1, _⟩
  have hk0s : w.heap.size + 1 + 1 + 1 + 1 ≤ w1.heap.size := by rw [← hWz]; exact hk1.size
  have k5 : Kept w1 (w1.alloc (.cells #[.map (some m1)] 60)) := Kept.alloc _ _
  have k6 := Kept.alloc (w1.alloc (.cells #[.map (some m1)] 60)) (.cells #[.slice none 0 0, .string { data := #[] }, .int .i64 0, .int .i64 0, .string { data := #[] }, .int .i64 0, .int .i64 0, .bool false, .slice none 0 0, .slice none 0 0] 36)
  have b5 := k6.blk (heap_alloc_new w1 (.cells #[.map (some m1)] 60))
  have b6 := heap_alloc_new (w1.alloc (.cells #[.map (some m1)] 60)) (.cells #[.slice none 0 0, .string { data := #[] }, .int .i64 0, .int .i64 0, .string { data := #[] }, .int .i64 0, .int .i64 0, .bool false, .slice none 0 0, .slice none 0 0] 36)
  simp only [World.size_alloc] at b6
  have hk2 := (hk1.trans k5).trans k6
  have d1 := hk2.blk b1
  have d2 := hk2.blk b2
  have d3 := hk2.blk b3
  have d4 := hk2.blk b4
  have hs2 : SM ((w1.alloc (.cells #[.map (some m1)] 60)).alloc (.cells #[.slice none 0 0, .string { data := #[] }, .int .i64 0, .int .i64 0, .string { data := #[] }, .int .i64 0, .int .i64 0, .bool false, .slice none 0 0, .slice none 0 0] 36)) m1 [] := ⟨(k5.trans k6).blk hs1.mp, hs1.nd⟩
  have hwz : w.heap.size ≤ w1.heap.size := Nat.le_trans hk.size hk1.size
  have hkw := hk.trans hk2
  have c1 : ((w1.alloc (.cells #[.map (some m1)] 60)).alloc (.cells #[.slice none 0 0, .string { data := #[] }, .int .i64 0, .int .i64 0, .string { data := #[] }, .int .i64 0, .int .i64 0, .bool false, .slice none 0 0, .slice none 0 0] 36)).cell? ⟨w.heap.size, 0, none⟩ = some (.int .i64 fl) := cell_of d1 rfl
  have c5 : ((w1.alloc (.cells #[.map (some m1)] 60)).alloc (.cells #[.slice none 0 0, .string { data := #[] }, .int .i64 0, .int .i64 0, .string { data := #[] }, .int .i64 0, .int .i64 0, .bool false, .slice none 0 0, .slice none 0 0] 36)).cell? ⟨w1.heap.size, 0, none⟩ = some (.map (some m1)) := cell_of b5 rfl
  clear k5 k6 hk1 hs1 b1 b2 b3 b4 hk
  have HC : Hid _ := hI.out ((w1.alloc (.cells #[.map (some m1)] 60)).alloc (.cells #[.slice none 0 0, .string { data := #[] }, .int .i64 0, .int .i64 0, .string { data := #[] }, .int .i64 0, .int .i64 0, .bool false, .slice none 0 0, .slice none 0 0] 36)) m1 (w1.heap.size + 1) (w.heap.size + 1 + 1) w1.heap.size w.heap.size (w.heap.size + 1) (HGA.out.kept hk2) ⟨by have := hk0s; omega, ⟨_, [], rfl, b6, World.ownsRow_nil _ _ _ _, fun j h => by simp at h⟩, d3, d2, trivial, trivial⟩ hs2
  unfold watA at HC
  clear hI
  go_wp2_with fail
  refine Calls.mono HC.out ?_
  rintro e w2 ⟨er, rfl, her, HE⟩
  clear HC
  obtain ⟨hkw2, hwk2, hflt⟩ := HE.out
  obtain ⟨rv, ps, hpl, hwb2, how2, hrs2⟩ := hwk2.cs
  obtain ⟨ao, cc, rfl⟩ : ∃ ao cc, rv = .slice ao o.length cc := by
    rcases how2.2 with ⟨e, e2⟩ | ⟨g, cap, cur, e, _⟩
    · exact ⟨none, 0, by rw [e2]; exact e⟩
    · exact ⟨_, _, e⟩
  have hlow : ∀ (q : Nat) (ob : Obj), ((w1.alloc (.cells #[.map (some m1)] 60)).alloc (.cells #[.slice none 0 0, .string { data := #[] }, .int .i64 0, .int .i64 0, .string { data := #[] }, .int .i64 0, .int .i64 0, .bool false, .slice none 0 0, .slice none 0 0] 36)).heap[q]? = some ob → (q < w.heap.size + 1 + 1 + 1 + 1 ∨ ¬ WB ob) → w2.heap[q]? = some ob := fun q ob hq hh => hkw2.blk q ob hq (fun z => hh.elim id (fun n => absurd z n)) (fun _ z => by simp at z)
  have hP : PFn w (w.heap.size + 1 + 1 + 1 + 1) (w1.heap.size + 1) (.slice ao o.length cc) o ps (wtC (.slice ao o.length cc)) w2 := by
    refine ⟨hwb2, hlow _ _ d4 (.inl (by omega)), how2, fun j a b => ⟨(hrs2 j a b).1, (hrs2 j a b).2.1⟩, ⟨hkw2.os.trans hkw.os, hkw2.output.trans hkw.output, Nat.le_trans hkw.size hkw2.size, fun q hq => ?_⟩⟩
    have e : w.heap[q]? = some w.heap[q] := by simp [hq]
    rw [e]
    exact hlow q _ (hkw.blk e) (.inl (by omega))
  have hm2 : w2.cell? ⟨w1.heap.size, 0, none⟩ = some (.map (some m1)) := cell_of (hlow _ _ b5 (.inr (by
    rintro ⟨cs', e, f, he, hh⟩
    simp only [Obj.cells.injEq] at he
    obtain ⟨_, rfl, _⟩ := he
    rcases hh with e | e <;> cases e))) rfl
  have hsm2 : SM w2 m1 [] := ⟨hlow _ _ hs2.mp (.inr (by rintro ⟨cs', e, f, he, _⟩; cases he)), hs2.nd⟩
  have HP : Hid _ := hP
  have HFL : Hid _ := hflt
  have Hpl : Hid _ := hpl
  clear hkw2 hwk2 hflt hwb2 how2 hrs2 hlow hP HE hs2 d1 d2 d3 d4 b5 b6 hkw hk2 c1 c5 hWz HGA HHG hwz hpl
  have HC : Hid (Calls Tryz.prog 22 #[er] w2.drew fun e u1 => e = .returned (.agg #[.int .i64 what, .int .i64 loc, .string ss, .int .i64 0, .int .i64 0]) ∧ u1.cell? ⟨w1.heap.size, 0, none⟩ = some (.map (some m1)) ∧
      Hid (Calls Tryz.prog 26 #[.slice none 0 0, .slice none 0 0] u1 fun e u2 => ∃ m2, e = .returned (.map (some m2)) ∧ u2.cell? ⟨w1.heap.size, 0, none⟩ = some (.map (some m1)) ∧
        Hid (Calls Tryz.prog 31 #[.map (some m1), .map (some m2)] u2 fun e u3 => e = .returned (.bool true) ∧ u3.cell? ⟨w1.heap.size + 1, 1, none⟩ = some (.string { data := #[] }) ∧ u3.cell? ⟨w1.heap.size + 1, 2, none⟩ = some (.int .i64 0) ∧ u3.cell? ⟨w1.heap.size + 1, 3, none⟩ = some (.int .i64 0) ∧ u3.cell? ⟨w1.heap.size + 1, 4, none⟩ = some (.string { data := #[] }) ∧ u3.cell? ⟨w1.heap.size + 1, 5, none⟩ = some (.int .i64 0) ∧ u3.cell? ⟨w1.heap.size + 1, 6, none⟩ = some (.int .i64 0) ∧ u3.cell? ⟨w1.heap.size + 1, 7, none⟩ = some (.bool false) ∧ (∀ j, u3.frozen? ⟨w1.heap.size + 1, j, none⟩ = false) ∧ Hid (PFn w (w.heap.size + 1 + 1 + 1 + 1) (w1.heap.size + 1) (.slice ao o.length cc) o ps (wtC (.slice ao o.length cc)) u3)))) := by
    refine (HFL.out w2.drew (Kept.drew w2)).mono ?_
    rintro e u1 ⟨rfl, q1⟩
    have q1' := (Kept.drew w2).trans q1
    refine ⟨rfl, q1'.cell hm2, ?_⟩
    refine (env_sx (w := u1) (kv := []) ⟨none, 0, 0, rfl, fun q x hx => by simp at hx⟩ ⟨none, 0, 0, rfl, fun q x hx => by simp at hx⟩ List.nodup_nil (by simp)).mono ?_
    rintro e u2 ⟨m2, rfl, s2, q2, _⟩
    have q2' := q1'.trans q2
    refine ⟨m2, rfl, q2'.cell hm2, ?_⟩
    refine (mequal_sx (⟨q2'.blk hsm2.mp, hsm2.nd⟩ : SM u2 m1 []) s2).mono ?_
    rintro e u3 ⟨rfl, q3⟩
    have hpf := HP.out.kept (q2'.trans q3)
    exact ⟨rfl, cell_of hpf.wc rfl, cell_of hpf.wc rfl, cell_of hpf.wc rfl, cell_of hpf.wc rfl, cell_of hpf.wc rfl, cell_of hpf.wc rfl, cell_of hpf.wc rfl, fun j => by simp [World.frozen?, hpf.wc], hpf⟩
  have hm2' : w2.drew.cell? ⟨w1.heap.size, 0, none⟩ = some (.map (some m1)) := hm2
  clear HFL HP hsm2
  rcases her with rfl | ⟨T, u, rfl⟩
  all_goals
    go_wp2_with fail
    go_cut [36] (fun v wx => Hid (PFn w (w.heap.size + 1 + 1 + 1 + 1) (w1.heap.size + 1) (.slice ao o.length cc) o ps (wtD (.slice ao o.length cc) t what loc ss) wx))
    case first =>
      go_region_with (first | (go_at_call 22; refine Calls.mono HC.out ?_; rintro e u1 ⟨rfl, e1, HD⟩; clear HC) | (go_at_call 26; refine Calls.mono HD.out ?_; rintro e u2 ⟨m2, rfl, e2, HD2⟩; clear HD) | (go_at_call 31; refine Calls.mono HD2.out ?_; rintro e u3 ⟨rfl, x1, x2, x3, x4, x5, x6, x7, x8, HP⟩; clear HD2))
      all_goals
        have HZ : Hid (PFn w (w.heap.size + 1 + 1 + 1 + 1) (w1.heap.size + 1) (.slice ao o.length cc) o ps (wtD (.slice ao o.length cc) t what loc ss) (((((((u3.setCell ⟨w1.heap.size + 1, 1, none⟩ (.string t)).setCell ⟨w1.heap.size + 1, 2, none⟩ (.int .i64 what)).setCell ⟨w1.heap.size + 1, 3, none⟩ (.int .i64 loc)).setCell ⟨w1.heap.size + 1, 4, none⟩ (.string ss)).setCell ⟨w1.heap.size + 1, 5, none⟩ (.int .i64 0)).setCell ⟨w1.heap.size + 1, 6, none⟩ (.int .i64 0)).setCell ⟨w1.heap.size + 1, 7, none⟩ (.bool false))) := wtD_set HP.out (by omega) (by omega)
        go_wp2_with fail
        go_meet
        case rel => exact HZ
    case rest =>
      have hF := hcut.out
      clear HC hm2 hm2'
      have x0 : wc.cell? ⟨w1.heap.size + 1, 0, none⟩ = some (.slice ao o.length cc) := cell_of hF.wc rfl
      have x1 : wc.cell? ⟨w1.heap.size + 1, 1, none⟩ = some (.string t) := cell_of hF.wc rfl
      have x2 : wc.cell? ⟨w1.heap.size + 1, 2, none⟩ = some (.int .i64 what) := cell_of hF.wc rfl
      have x3 : wc.cell? ⟨w1.heap.size + 1, 3, none⟩ = some (.int .i64 loc) := cell_of hF.wc rfl
      have x4 : wc.cell? ⟨w1.heap.size + 1, 4, none⟩ = some (.string ss) := cell_of hF.wc rfl
      have x5 : wc.cell? ⟨w1.heap.size + 1, 5, none⟩ = some (.int .i64 0) := cell_of hF.wc rfl
      have x6 : wc.cell? ⟨w1.heap.size + 1, 6, none⟩ = some (.int .i64 0) := cell_of hF.wc rfl
      have x7 : wc.cell? ⟨w1.heap.size + 1, 7, none⟩ = some (.bool false) := cell_of hF.wc rfl
      have x8 : wc.cell? ⟨w1.heap.size + 1, 8, none⟩ = some (.slice none 0 0) := cell_of hF.wc rfl
      have x9 : wc.cell? ⟨w1.heap.size + 1, 9, none⟩ = some (.slice none 0 0) := cell_of hF.wc rfl
      have y0 : wc.cell? ⟨w.heap.size + 1 + 1 + 1, 0, none⟩ = some (.slice none 0 0) := cell_of hF.rr rfl
      have y1 : wc.cell? ⟨w.heap.size + 1 + 1 + 1, 1, none⟩ = some (.string { data := #[] }) := cell_of hF.rr rfl
      have y2 : wc.cell? ⟨w.heap.size + 1 + 1 + 1, 2, none⟩ = some (.int .i64 0) := cell_of hF.rr rfl
      have y3 : wc.cell? ⟨w.heap.size + 1 + 1 + 1, 3, none⟩ = some (.int .i64 0) := cell_of hF.rr rfl
      have y4 : wc.cell? ⟨w.heap.size + 1 + 1 + 1, 4, none⟩ = some (.string { data := #[] }) := cell_of hF.rr rfl
      have y5 : wc.cell? ⟨w.heap.size + 1 + 1 + 1, 5, none⟩ = some (.int .i64 0) := cell_of hF.rr rfl
      have y6 : wc.cell? ⟨w.heap.size + 1 + 1 + 1, 6, none⟩ = some (.int .i64 0) := cell_of hF.rr rfl
      have y7 : wc.cell? ⟨w.heap.size + 1 + 1 + 1, 7, none⟩ = some (.bool false) := cell_of hF.rr rfl
      have y8 : wc.cell? ⟨w.heap.size + 1 + 1 + 1, 8, none⟩ = some (.slice none 0 0) := cell_of hF.rr rfl
      have y9 : wc.cell? ⟨w.heap.size + 1 + 1 + 1, 9, none⟩ = some (.slice none 0 0) := cell_of hF.rr rfl
      have yz : ∀ j, wc.frozen? ⟨w.heap.size + 1 + 1 + 1, j, none⟩ = false := fun j => by simp [World.frozen?, hF.rr]
      have HF : Hid _ := hF
      clear hF hcut
      go_wp2_with fail
      have HX := wt_end (t := t) (ss := ss) (what := what) (loc := loc) HF.out
      exact wt_ret HX rfl rfl ⟨ao, cc, ps, rfl, Hpl.out, HX.ow, HX.rw, HX.kp⟩
end Go.Proofs.YtleenphlgbklmabGreatDoor
