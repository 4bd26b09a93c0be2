import Derived.Test.YtleenphlgbklmaaGreatDoorTWAtom
import Derived.Deep.RegionHeld3
set_option linter.unusedVariables false
set_option linter.unusedSimpArgs false
namespace Go.Proofs.YtleenphlgbklmaaGreatDoor
open Go.RowKit

def SBound (l : List Tk) (n : Nat) : Prop := ∀ (w : World) (rb tb c k : Nat) (bad : Int) (B xb : Nat) (op : ByteArray) (names : List ByteArray) (kids : List X) (loc : Nat) (nv lv : Value) (ps : List Value) (fk : List Nat) (names' : List ByteArray) (kids' : List X) (k' : Nat) (bad' : Int),
  Rd w rb tb c l k bad → k < l.length → Bld w B xb op names kids loc nv lv ps fk → rb < B → tb < B → B ≤ w.heap.size → names.length ≤ 100000 → kids.length ≤ 100000 → boundM l n names kids k bad = some (names', kids', k', bad') →
  Calls Tryz.prog 77 #[.pointer (some ⟨rb, 0, none⟩), .pointer (some ⟨xb, 0, none⟩)] w fun e w' => e = .returned (.tuple #[]) ∧ (∃ nv' lv' ps' fk', Bld w' B xb op names' kids' loc nv' lv' ps' fk') ∧ Kp (fun q => q = rb ∨ B ≤ q) w w' ∧ Rd w' rb tb c l k' bad' ∧ k' < l.length

theorem Tryz.info9 : (Tryz.prog.info? 9).map (fun i => (i.zero, i.size, i.bytes)) = some (some (.string { data := #[] }), 1, 16) := by kernel_rfl
theorem Tryz.info26 : (Tryz.prog.info? 26).map (fun i => (i.zero, i.size, i.bytes)) = some (some (.pointer none), 1, 8) := by kernel_rfl

theorem dupB_snoc (xs : List ByteArray) (m s : ByteArray) (loc : Nat) (b : Int) : dupB (xs ++ [m]) s loc b = if ((m.data.toList == s.data.toList) && decide (dupB xs s loc b < 0)) = true then (loc : Int) else dupB xs s loc b := by
  unfold dupB
  rw [List.any_append]
  simp only [List.any_cons, List.any_nil, Bool.or_false]
  generalize (m.data.toList == s.data.toList) = q
  generalize (xs.any fun m => m.data.toList == s.data.toList) = r
  by_cases h2 : b < 0 <;> cases q <;> cases r <;> simp [h2]
theorem dupB_take (names : List ByteArray) (i : Nat) (hi : i < names.length) (s : ByteArray) (loc : Nat) (b : Int) :
    dupB (names.take (i + 1)) s loc b = if (((names.getD i Tk.no.s).data.toList == s.data.toList) && decide (dupB (names.take i) s loc b < 0)) = true then (loc : Int) else dupB (names.take i) s loc b := by
  rw [← dupB_snoc, List.take_succ_eq_append_getElem hi]
  simp [List.getD, hi]

theorem Bld.nmForm {w : World} {B xb : Nat} {op : ByteArray} {names : List ByteArray} {kids : List X} {loc : Nat} {nv lv : Value} {ps : List Value} {fk : List Nat} (h : Bld w B xb op names kids loc nv lv ps fk) :
    ∃ ao cap, nv = .slice ao names.length cap ∧ ∀ i, i < names.length → ∃ g, ao = some ⟨g, 0, none⟩ ∧ B ≤ g ∧ nv.ownBlock = some g := by
  rcases h.nm.2 with ⟨rfl, e⟩ | ⟨g, cap, cur, rfl, hb, _⟩
  · exact ⟨none, 0, by rw [e], fun i hi => by omega⟩
  · exact ⟨some ⟨g, 0, none⟩, cap, rfl, fun i _ => ⟨g, rfl, hb, rfl⟩⟩
theorem Bld.nmCell {w : World} {B xb : Nat} {op : ByteArray} {names : List ByteArray} {kids : List X} {loc : Nat} {lv : Value} {ps : List Value} {fk : List Nat} {g cap : Nat} (h : Bld w B xb op names kids loc (.slice (some ⟨g, 0, none⟩) names.length cap) lv ps fk) (i : Nat) (hi : i < names.length) :
    w.cell? ⟨g, i, none⟩ = some (.string (names.getD i Tk.no.s)) := by
  have := h.nm.cellAt i (by omega)
  rw [this]
  simp [List.getD, hi]

set_option maxRecDepth 20000 in
set_option maxHeartbeats 4000000 in
theorem bound_step (l : List Tk) (hl : l.length ≤ 1000) (hG : Good l) (n : Nat) (hE : SExp l n) : SBound l (n + 1) := by
  intro w rb tb c k bad B xb op names kids loc nv lv ps fk names' kids' k' bad' h hk hB hrB htB hBw hnl hkl hM
  have h0 := h.c0
  have h1 := h.c1
  have t2 := (h.tk k hk).2.2
  have H : Hid (boundM l (n + 1) names kids k bad = some (names', kids', k', bad')) := hM
  clear hM
  go_enter Tryz.func77, Tryz.ntmps77
  go_wp2
  go_quiet (fail)
  go_wp2_with fail
  have hKW : ∀ m, Kp (fun q => q = rb ∨ B ≤ q) w (w.drewN m) := fun m => (Kp.refl _ _).drewN m
  have hBm : ∀ m, Bld (w.drewN m) B xb op names kids loc nv lv ps fk := fun m => hB.same (fun _ _ _ => rfl) (Reps.lt kids hB.rp)
  refine (need_any _ rb tb c l k bad _ (h.drewN _) hk hl).mono ?_
  rintro e w1 ⟨rfl, g1, r1⟩
  have hB1 := (hBm _).kp g1 hrB
  have hK1 := (hKW _).trans (g1.mono (fun q _ e => Or.inl e))
  clear hKW hBm g1 h h0 h1 t2
  have hk1 : takeK l { data := #[110, 97, 109, 101] } k bad < l.length := takeK_lt hG hk (by decide) (by decide)
  obtain ⟨b1, hb1⟩ : ∃ b1, b1 = needB l { data := #[110, 97, 109, 101] } k bad := ⟨_, rfl⟩
  obtain ⟨k1, hkk1⟩ : ∃ k1, k1 = takeK l { data := #[110, 97, 109, 101] } k bad := ⟨_, rfl⟩
  obtain ⟨s1, hs1⟩ : ∃ s1, s1 = (tkAt l k).s := ⟨_, rfl⟩
  obtain ⟨lo1, hlo1⟩ : ∃ lo1, lo1 = (tkAt l k).loc := ⟨_, rfl⟩
  have hq := H.out
  simp only [boundM] at hq
  rw [← hb1, ← hkk1, ← hs1, ← hlo1] at hq
  rw [← hb1, ← hkk1] at r1
  rw [← hkk1] at hk1
  rw [← hs1, ← hlo1]
  clear hb1 hkk1 hs1 hlo1 H
  obtain ⟨⟨x, k2, b2⟩, hx, hq2⟩ := Option.bind_eq_some_iff.1 hq
  simp only [Option.some.injEq, Prod.mk.injEq] at hq2
  obtain ⟨e1, e2, e3, e4⟩ := hq2
  subst e1 e2 e3 e4
  have HX : Hid _ := hx
  clear hx hq
  obtain ⟨ao, cap, rfl, hao⟩ := hB1.nmForm
  have c1 := hB1.c1
  go_wp2
  clear c1
  go_loopw [26] (fun i wr => ∃ q : Nat, q ≤ names.length ∧ i = .int .i64 q ∧ Rd wr rb tb c l k1 (dupB (names.take q) s1 lo1 b1) ∧ Bld wr B xb op names kids loc (.slice ao names.length cap) lv ps fk ∧ Kp (fun q => q = rb ∨ B ≤ q) w wr) (fun i _ => names.length - (intOf i).toNat)
  case atStart => exact ⟨0, Nat.zero_le _, rfl, by simpa [dupB] using r1, hB1, hK1⟩
  case round =>
    clear r1 hB1 hK1
    obtain ⟨q, hq, rfl, hR, hBq, hKq⟩ := hrel
    by_cases hlt : q < names.length
    · obtain ⟨g, rfl, hgB, _⟩ := hao q hlt
      have cm := hBq.nmCell q hlt
      have c2 := hR.c2
      have fz := hR.fz 2
      have DT : Hid _ := dupB_take names q hlt s1 lo1 b1
      generalize dupB (names.take q) s1 lo1 b1 = bq at *
      generalize names.getD q Tk.no.s = m at *
      clear hao HX hE
      have hmd : Hid ((m.data.toList == s1.data.toList) = (m.toList == s1.toList)) := by simp only [Hid, ByteArray.toList_eq]
      by_cases hm : (m.toList == s1.toList) = true
      · by_cases hbq : bq < 0
        · have hs := hR.setB lo1
          have hk3 := hKq.setCell ⟨rb, 2, none⟩ (.int .i64 lo1) (fun _ => Or.inl rfl)
          have hb3 := hBq.kp ((Kp.refl (· = rb) wr).setCell ⟨rb, 2, none⟩ (.int .i64 lo1) (fun _ => rfl)) hrB
          have hd : Hid (dupB (names.take (q + 1)) s1 lo1 b1 = lo1) := by
            show _ = _
            rw [DT.out, if_pos (by rw [hmd.out, hm]; simp [hbq])]
          clear DT hmd
          go_wp2
          go_roundw
          case rel => exact ⟨q + 1, by omega, by go_num, by rw [hd.out]; exact hs, hb3, hk3⟩
          case measure => simp [intOf]; omega
        · have hd : Hid (dupB (names.take (q + 1)) s1 lo1 b1 = bq) := by
            show _ = _
            rw [DT.out, if_neg (by simp [hbq])]
          have hdd : decide (bq < 0) = false := by simpa using hbq
          clear DT hmd
          go_wp2
          go_roundw
          case rel => exact ⟨q + 1, by omega, by go_num, by rw [hd.out]; exact hR, hBq, hKq⟩
          case measure => simp [intOf]; omega
      · have hd : Hid (dupB (names.take (q + 1)) s1 lo1 b1 = bq) := by
          show _ = _
          rw [DT.out, if_neg (by rw [hmd.out]; simp at hm; simp [hm])]
        have hm' : (m.toList == s1.toList) = false := by simpa using hm
        clear DT hmd hm
        go_wp2
        go_roundw
        case rel => exact ⟨q + 1, by omega, by go_num, by rw [hd.out]; exact hR, hBq, hKq⟩
        case measure => simp [intOf]; omega
    · have hql : q = names.length := by omega
      subst hql
      rw [List.take_length] at hR
      have hk3 : takeK l { data := #[61] } k1 (dupB names s1 lo1 b1) < l.length := takeK_lt hG hk1 (by decide) (by decide)
      go_wp2_with fail
      refine (need_any wr rb tb c l k1 _ _ hR hk1 hl).mono ?_
      rintro e w2 ⟨rfl, g2, r2⟩
      have hB2 := hBq.kp g2 hrB
      have hK2 := hKq.trans (g2.mono (fun q _ e => Or.inl e))
      have c1 := hB2.c1
      have fz1 := hB2.fz 1
      clear hR hBq hKq g2 hao
      obtain ⟨i9, hi9, hz90, hz91, hz92⟩ := info_parts Tryz.info9
      have hsz2 : B ≤ w2.heap.size := Nat.le_trans hBw hK2.size
      go_wp2_with (at_builtin; refine wpList_append_own2 _ rfl (.tmp 51) (.tmp 53) 34 rfl B 9 i9 (.string { data := #[] }) 1 16 Tryz.underlying34 hi9 hz90 hz91 hz92 rfl (by decide) _ _ _ rfl (hB2.nm.alloc _) ⟨w2.heap.size, 0, none⟩ 1 1 [.string s1] rfl rfl ?c1 ?c2 ?c3 ?c4 ?c5 (by decide) ?_)
      case c1 =>
        intro q u hq
        match q, hq with
        | 0, hq => simp at hq; subst hq; simp [Addr.add]
      case c2 => intro u hu; simp at hu; subst hu; rfl
      case c3 => unfold maxLen; omega
      case c4 => omega
      case c5 => simp; omega
      intro g cap' w3 hown' hgrow hfr
      have hB3 := hB2.name hown' hgrow (hfr.imp id (fun h => by first | omega | (simp at h; omega)))
      have hnx := row_ne hB2.nm hB2.blk (by decide)
      have hxl := lt_of_block hB2.blk
      have hx3 : w3.heap[xb]? = w2.heap[xb]? := by rw [hgrow.block xb (by simp; omega) (Ne.symm hnx), Below.heap_alloc _ _ _ hxl]
      have x1 : w3.cell? ⟨xb, 1, none⟩ = some (.slice ao names.length cap) := (World.cell?_of_block (a := ⟨xb, 1, none⟩) hx3).trans c1
      have f1 : w3.frozen? ⟨xb, 1, none⟩ = false := (World.frozen?_of_block (a := ⟨xb, 1, none⟩) hx3).trans fz1
      have kk : Kp (fun q => B ≤ q) w2 (w3.setCell ⟨xb, 1, none⟩ (.slice (some ⟨g, 0, none⟩) (names.length + 1) cap')) :=
        ((((Kp.refl _ w2).alloc _).grown hgrow (fun q e _ => (hB2.nm.lt q e).1)).setCell _ _ (fun _ => hB2.low))
      have r4 := r2.kp kk (by show ¬ B ≤ rb; omega) (by show ¬ B ≤ tb; omega)
      have hK4 := hK2.trans (kk.mono (fun q _ e => Or.inr e))
      clear hown' hgrow hfr hnx hxl hx3 kk r2 hK2 hB2 c1 fz1
      go_wp2
      generalize w3.setCell ⟨xb, 1, none⟩ (.slice (some ⟨g, 0, none⟩) (names.length + 1) cap') = w4 at *
      clear x1 f1
      have c2 := hB3.c2
      have fz2 := hB3.fz 2
      obtain ⟨i26, hi26, hz0, hz1, hz2⟩ := info_parts Tryz.info26
      have hpl : ps.length ≤ 100000 := by rw [hB3.rp.len]; exact hkl
      have hsz4 : B ≤ w4.heap.size := Nat.le_trans hBw hK4.size
      have hxl4 := lt_of_block hB3.blk
      have hB4d : Bld w4.drew B xb op (names ++ [s1]) kids loc (.slice (some ⟨g, 0, none⟩) (names.length + 1) cap') lv ps fk := hB3.same (fun _ _ _ => rfl) (Reps.lt kids hB3.rp)
      have hnr : ¬ (fun q => q = rb) xb := by show ¬ xb = rb; have := hB3.low; omega
      go_region_law (first
          | (refine step_append_own2 (by rfl) (.tmp 61) (.tmp 64) 85 (by rfl) B 26 i26 (.pointer none) 1 8 Tryz.underlying85 hi26 hz0 hz1 hz2 rfl (by decide) _ _ _ (by rfl) (hB5.kd.alloc _) ⟨w5.heap.size, 0, none⟩ 1 1 [.pointer (some ⟨yb, 0, none⟩)] (by rfl) rfl (fun q u hq => by match q, hq with | 0, hq => simp at hq; subst hq; simp [Addr.add]) (fun u hu => by simp at hu; subst hu; rfl) (by unfold maxLen; omega) (by omega) (by have := g5.size; simp; simp at this; omega) (by decide) ?_; intro g6 cap6 w6 hown6 hgrow6 hfr6; have hx6 : w6.heap[xb]? = w5.heap[xb]? := (hgrow6.block xb (by simp; omega) (Ne.symm (row_ne hB5.kd hB5.blk (by decide)))).trans (Below.heap_alloc _ _ _ hx5); have s6 : w6.cell? ⟨xb, 2, none⟩ = some lv := (World.cell?_of_block (a := ⟨xb, 2, none⟩) hx6).trans s1; have f6 : w6.frozen? ⟨xb, 2, none⟩ = false := (World.frozen?_of_block (a := ⟨xb, 2, none⟩) hx6).trans s2; clear hx6)
          | (go_simp; go_wp2_with (go_at_call 40; refine (hE _ rb tb c _ _ x k2 b2 ?_ hk3 HX.out).mono ?_; exact r4.drew; rintro e w5 ⟨yb, yf, rfl, hyr, hyl, g5, r5, hk5⟩; have hB5 := hB4d.kp g5 hrB; have s1 := hB5.c2; have s2 := hB5.fz 2; have hx5 := lt_of_block hB5.blk)))
      all_goals
        have h4d : w4.drew.heap.size = w4.heap.size := rfl
        have hlow : ∀ b, b ∈ yf → B ≤ b ∧ b ≠ xb ∧ (Value.slice (some ⟨g, 0, none⟩) (names.length + 1) cap').ownBlock ≠ some b ∧ lv.ownBlock ≠ some b := fun b hb => by
          have h1 := hyl b hb
          refine ⟨by omega, by omega, fun e => ?_, fun e => ?_⟩
          · have := (hB4d.nm.lt b e).2; omega
          · have := (hB4d.kd.lt b e).2; omega
        have hB6 := hB5.kid hyr hlow hown6 hgrow6 (hfr6.imp id (fun h => by first | omega | (simp at h; omega)))
        have kk : Kp (fun q => q = rb ∨ B ≤ q) w5 (w6.setCell ⟨xb, 2, none⟩ (.slice (some ⟨g6, 0, none⟩) (ps.length + 1) cap6)) :=
          ((((Kp.refl _ w5).alloc _).grown hgrow6 (fun q e _ => Or.inr (hB5.kd.lt q e).1)).setCell _ _ (fun _ => Or.inr hB5.low))
        have kk2 : Kp (fun q => B ≤ q) w5 (w6.setCell ⟨xb, 2, none⟩ (.slice (some ⟨g6, 0, none⟩) (ps.length + 1) cap6)) :=
          ((((Kp.refl _ w5).alloc _).grown hgrow6 (fun q e _ => (hB5.kd.lt q e).1)).setCell _ _ (fun _ => hB5.low))
        have r7 := r5.kp kk2 (by show ¬ B ≤ rb; omega) (by show ¬ B ≤ tb; omega)
        have hK7 := (hK4.drew.trans (g5.mono (fun q _ e => Or.inl e))).trans kk
        clear kk kk2 hlow hgrow6 hown6 hB5 hB4d hB3
        go_end0
        exact ⟨rfl, ⟨_, _, _, _, by simpa using hB6⟩, hK7, r7, hk5⟩
end Go.Proofs.YtleenphlgbklmaaGreatDoor

namespace Go.Proofs.YtleenphlgbklmaaGreatDoor
open Go.RowKit

/-- within exp: its expression in the making, the reader's state; what lay ahead of the call is as it was. -/
structure Mid (w wx : World) (rb tb c : Nat) (l : List Tk) (k : Nat) (bad : Int) (xb : Nat) (op : ByteArray) (names : List ByteArray) (kids : List X) (loc : Nat) : Prop where
  bl : ∃ nv lv ps fk, Bld wx w.heap.size xb op names kids loc nv lv ps fk
  kp : Kp (fun q => q = rb ∨ w.heap.size ≤ q) w wx
  rd : Rd wx rb tb c l k bad
  kl : k < l.length

section
variable {w wx w5 w6 : World} {rb tb c : Nat} {l : List Tk} {k k' : Nat} {bad bad' : Int} {xb : Nat} {op : ByteArray} {names : List ByteArray} {kids : List X} {loc : Nat} {nv lv : Value} {ps : List Value} {fk : List Nat}

theorem Mid.step (h : Mid w wx rb tb c l k bad xb op names kids loc) (hr : rb < w.heap.size) (g : Kp (· = rb) wx w5) (r : Rd w5 rb tb c l k' bad') (hk : k' < l.length) : Mid w w5 rb tb c l k' bad' xb op names kids loc := by
  obtain ⟨nv, lv, ps, fk, hb⟩ := h.bl
  exact ⟨⟨nv, lv, ps, fk, hb.kp g hr⟩, h.kp.trans (g.mono fun q _ e => Or.inl e), r, hk⟩
theorem Mid.drew (h : Mid w wx rb tb c l k bad xb op names kids loc) : Mid w wx.drew rb tb c l k bad xb op names kids loc := by
  obtain ⟨nv, lv, ps, fk, hb⟩ := h.bl
  exact ⟨⟨nv, lv, ps, fk, hb.same (fun _ _ _ => rfl) (Reps.lt kids hb.rp)⟩, h.kp.drew, h.rd.drew, h.kl⟩
theorem Mid.setOp (h : Mid w wx rb tb c l k bad xb op names kids loc) (hr : rb < w.heap.size) (ht : tb < w.heap.size) (op' : ByteArray) : Mid w (wx.setCell ⟨xb, 0, none⟩ (.string op')) rb tb c l k bad xb op' names kids loc := by
  obtain ⟨nv, lv, ps, fk, hb⟩ := h.bl
  have := hb.low
  refine ⟨⟨nv, lv, ps, fk, hb.setOp op'⟩, h.kp.setCell _ _ (fun _ => Or.inr hb.low), h.rd.kp (S := fun q => w.heap.size ≤ q) ((Kp.refl _ _).setCell _ _ (fun _ => hb.low)) (by show ¬ _; omega) (by show ¬ _; omega), h.kl⟩
theorem Mid.end (h : Mid w wx rb tb c l k bad xb op names kids loc) : ∃ b fs, Ending.returned (.pointer (some ⟨xb, 0, none⟩)) = .returned (.pointer (some ⟨b, 0, none⟩)) ∧ Rep wx (.mk op names kids loc) (.pointer (some ⟨b, 0, none⟩)) fs ∧ (∀ q, q ∈ fs → w.heap.size ≤ q) ∧ Kp (· = rb) w wx ∧ Rd wx rb tb c l k bad ∧ k < l.length := by
  obtain ⟨nv, lv, ps, fk, hb⟩ := h.bl
  exact ⟨xb, _, rfl, hb.rep, hb.fs_low, h.kp.mono (fun q hq e => by rcases e with e | e; exact e; omega), h.rd, h.kl⟩

theorem mid_kid (hr : rb < w.heap.size) (ht : tb < w.heap.size) (hB : Bld w5 w.heap.size xb op names kids loc nv lv ps fk) (hK : Kp (fun q => q = rb ∨ w.heap.size ≤ q) w w5) (r : Rd w5 rb tb c l k bad) (hk : k < l.length)
    {o : Obj} {g cap : Nat} {x : X} {p : Value} {f : List Nat} (hx : Rep w5 x p f) (hlow : ∀ b, b ∈ f → w.heap.size ≤ b ∧ b ≠ xb ∧ nv.ownBlock ≠ some b ∧ lv.ownBlock ≠ some b)
    (ho : w6.ownsRow w.heap.size 26 1 (.slice (some ⟨g, 0, none⟩) (ps.length + 1) cap) (ps.length + 1) (ps ++ [p])) (hg : (w5.alloc o).grownBy w6 lv.ownBlock) (hf : some g = lv.ownBlock ∨ w5.heap.size < g) :
    Mid w (w6.setCell ⟨xb, 2, none⟩ (.slice (some ⟨g, 0, none⟩) (ps.length + 1) cap)) rb tb c l k bad xb op names (kids ++ [x]) loc := by
  have kk2 : Kp (fun q => w.heap.size ≤ q) w5 (w6.setCell ⟨xb, 2, none⟩ (.slice (some ⟨g, 0, none⟩) (ps.length + 1) cap)) :=
    ((((Kp.refl _ w5).alloc _).grown hg (fun q e _ => (hB.kd.lt q e).1)).setCell _ _ (fun _ => hB.low))
  exact ⟨⟨_, _, _, _, hB.kid hx hlow ho hg hf⟩, hK.trans (kk2.mono fun q _ e => Or.inr e), r.kp kk2 (by show ¬ _; omega) (by show ¬ _; omega), hk⟩
theorem mid_name (hr : rb < w.heap.size) (ht : tb < w.heap.size) (hB : Bld w5 w.heap.size xb op names kids loc nv lv ps fk) (hK : Kp (fun q => q = rb ∨ w.heap.size ≤ q) w w5) (r : Rd w5 rb tb c l k bad) (hk : k < l.length)
    {o : Obj} {g cap : Nat} {nm : ByteArray}
    (ho : w6.ownsRow w.heap.size 9 1 (.slice (some ⟨g, 0, none⟩) (names.length + 1) cap) (names.length + 1) (names.map Value.string ++ [.string nm])) (hg : (w5.alloc o).grownBy w6 nv.ownBlock) (hf : some g = nv.ownBlock ∨ w5.heap.size < g) :
    Mid w (w6.setCell ⟨xb, 1, none⟩ (.slice (some ⟨g, 0, none⟩) (names.length + 1) cap)) rb tb c l k bad xb op (names ++ [nm]) kids loc := by
  have kk2 : Kp (fun q => w.heap.size ≤ q) w5 (w6.setCell ⟨xb, 1, none⟩ (.slice (some ⟨g, 0, none⟩) (names.length + 1) cap)) :=
    ((((Kp.refl _ w5).alloc _).grown hg (fun q e _ => (hB.nm.lt q e).1)).setCell _ _ (fun _ => hB.low))
  exact ⟨⟨_, _, _, _, hB.name ho hg hf⟩, hK.trans (kk2.mono fun q _ e => Or.inr e), r.kp kk2 (by show ¬ _; omega) (by show ¬ _; omega), hk⟩

/-- the expression as it begins. -/
theorem mid_start (h : Rd w rb tb c l k bad) (hk : k < l.length) (loc : Nat) : Mid w (w.alloc (.cells #[.string { data := #[] }, .slice none 0 0, .slice none 0 0, .int .i64 loc] 87)) rb tb c l k bad w.heap.size { data := #[] } [] [] loc :=
  ⟨⟨.slice none 0 0, .slice none 0 0, [], [], { blk := heap_alloc_new _ _, nm := World.ownsRow_nil _ _ _ _, kd := World.ownsRow_nil _ _ _ _, rp := (by simp only [Reps]; exact ⟨trivial, trivial⟩), out := (fun b hb => nomatch hb), low := Nat.le_refl _ }⟩, (Kp.refl _ _).alloc _, h.alloc _, hk⟩
end
end Go.Proofs.YtleenphlgbklmaaGreatDoor

namespace Go.Proofs.YtleenphlgbklmaaGreatDoor
open Go.RowKit

set_option maxRecDepth 20000 in
set_option maxHeartbeats 4000000 in
theorem exp_bad (l : List Tk) (hl : l.length ≤ 1000) (n : Nat) (w : World) (rb tb c k : Nat) (bad : Int) (x : X) (k' : Nat) (bad' : Int) (h : Rd w rb tb c l k bad) (hk : k < l.length) (hb : 0 ≤ bad) (hM : expM l (n + 1) k bad = some (x, k', bad')) :
    Calls Tryz.prog 40 #[.pointer (some ⟨rb, 0, none⟩)] w fun e w' => ∃ b fs, e = .returned (.pointer (some ⟨b, 0, none⟩)) ∧ Rep w' x (.pointer (some ⟨b, 0, none⟩)) fs ∧ (∀ q, q ∈ fs → w.heap.size ≤ q) ∧ Kp (· = rb) w w' ∧ Rd w' rb tb c l k' bad' ∧ k' < l.length := by
  have h0 := h.c0
  have h1 := h.c1
  have h2 := h.c2
  have t2 := (h.tk k hk).2.2
  have hrb := h.lt
  have htb : tb < w.heap.size := World.block_lt_of_cell? _ _ t2
  simp only [expM, hb, if_true, Option.some.injEq, Prod.mk.injEq] at hM
  obtain ⟨rfl, rfl, rfl⟩ := hM
  have M := (mid_start h hk (tkAt l k).loc).drew
  go_enter Tryz.func40, Tryz.ntmps40
  go_wp2
  go_region
  go_wp2
  go_ret
  exact M.end
end Go.Proofs.YtleenphlgbklmaaGreatDoor
