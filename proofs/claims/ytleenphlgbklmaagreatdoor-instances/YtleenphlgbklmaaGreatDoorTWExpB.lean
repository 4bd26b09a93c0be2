import Derived.Test.YtleenphlgbklmaaGreatDoorTWFun
set_option linter.unusedVariables false
set_option linter.unusedSimpArgs false
namespace Go.Proofs.YtleenphlgbklmaaGreatDoor
open Go.RowKit

set_option maxRecDepth 20000 in
set_option maxHeartbeats 4000000 in
theorem exp_if (l : List Tk) (hl : l.length ≤ 1000) (hG : Good l) (n : Nat) (hE : SExp l n) (w : World) (rb tb c k : Nat) (bad : Int) (x : X) (k' : Nat) (bad' : Int) (h : Rd w rb tb c l k bad) (hk : k < l.length) (hF0 : isM l { data := #[102, 117, 110] } k bad = false) (hF : isM l { data := #[105, 102] } k bad = true) (hM : expM l (n + 1) k bad = some (x, k', bad')) :
    Calls Tryz.prog 40 #[.pointer (some ⟨rb, 0, none⟩)] w fun e w' => ∃ b fs, e = .returned (.pointer (some ⟨b, 0, none⟩)) ∧ Rep w' x (.pointer (some ⟨b, 0, none⟩)) fs ∧ (∀ q, q ∈ fs → w.heap.size ≤ q) ∧ Kp (· = rb) w w' ∧ Rd w' rb tb c l k' bad' ∧ k' < l.length := by
  have h0 := h.c0
  have h1 := h.c1
  have h2 := h.c2
  have t2 := (h.tk k hk).2.2
  have hrb := h.lt
  have htb : tb < w.heap.size := World.block_lt_of_cell? _ _ t2
  have hb := isM_bad hF
  have hb0 : ¬ 0 ≤ bad := by omega
  have hk1 := isM_lt hG hk hF (by decide) (by decide)
  have hF0n : ¬ isM l { data := #[102, 117, 110] } k bad = true := by rw [hF0]; decide
  simp only [expM, if_neg hb0, hF0, hF, if_true, if_false, Bool.false_eq_true] at hM
  obtain ⟨⟨y1, k1, b1⟩, hy1, hq⟩ := Option.bind_eq_some_iff.1 hM
  obtain ⟨⟨y2, k2, b2⟩, hy2, hq⟩ := Option.bind_eq_some_iff.1 hq
  obtain ⟨⟨y3, k3, b3⟩, hy3, hq⟩ := Option.bind_eq_some_iff.1 hq
  simp only [Option.some.injEq, Prod.mk.injEq] at hq
  obtain ⟨rfl, rfl, rfl⟩ := hq
  have HY1 : Hid _ := hy1
  have HY2 : Hid _ := hy2
  have HY3 : Hid _ := hy3
  clear hM hy1 hy2 hy3 hb0
  have M := (mid_start h hk (tkAt l k).loc).drew
  obtain ⟨i9, hi9, hz90, hz91, hz92⟩ := info_parts Tryz.info9
  obtain ⟨i26, hi26, hz0, hz1, hz2⟩ := info_parts Tryz.info26
  generalize (tkAt l k).loc = loc at *
  go_enter Tryz.func40, Tryz.ntmps40
  go_wp2
  go_region
  go_wp2_with fail
  clear h h0 h1 h2 t2
  generalize (w.alloc (.cells #[.string { data := #[] }, .slice none 0 0, .slice none 0 0, .int .i64 loc] 87)).drew = w1 at *
  refine (take_any w1 rb tb c l k bad _ M.rd hk hl).mono ?_
  rintro e w2 ⟨rfl, g2, r2⟩
  rw [takeK, if_neg hF0n] at r2
  have M1 := M.step hrb g2 r2 hk
  rw [hF0]
  clear M g2 r2
  go_wp2_with fail
  refine (take_any w2 rb tb c l k bad _ M1.rd hk hl).mono ?_
  rintro e w2b ⟨rfl, g2, r2⟩
  rw [takeK, if_pos hF] at r2
  have M2 := M1.step hrb g2 r2 hk1
  rw [hF]
  clear M1 g2 r2 hF
  have c0 : w2b.cell? ⟨w.heap.size, 0, none⟩ = some (.string { data := #[] }) := by obtain ⟨_, _, _, _, hB⟩ := M2.bl; exact hB.c0
  have f0 : w2b.frozen? ⟨w.heap.size, 0, none⟩ = false := by obtain ⟨_, _, _, _, hB⟩ := M2.bl; exact hB.fz 0
  have M3' := M2.setOp hrb htb { data := #[105, 102] }
  obtain ⟨xb, hxb⟩ : ∃ xb, xb = w.heap.size := ⟨_, rfl⟩
  have hxw : w.heap.size ≤ xb := by omega
  rw [← hxb] at c0 f0 ⊢
  clear M2
  have M4 : Mid w (w2b.setCell ⟨xb, 0, none⟩ (.string { data := #[105, 102] })) rb tb c l (k + 1) bad xb { data := #[105, 102] } [] [] loc := by rw [hxb]; exact M3'
  clear M3' hxb
  go_wp2_with fail
  generalize w2b.setCell ⟨xb, 0, none⟩ (.string { data := #[105, 102] }) = w3 at *
  clear c0 f0
  clear hF0 hF0n
  obtain ⟨nv, lv, ps, fk, hBc⟩ := M4.bl
  have hBd : Bld w3.drew w.heap.size xb { data := #[105, 102] } [] [] loc nv lv ps fk := hBc.same (fun _ _ _ => rfl) (Reps.lt _ hBc.rp)
  have hKd := M4.drew.kp
  have rdd := M4.drew.rd
  have hkl := M4.kl
  have cf := hBc.c2
  have hpl : ps.length ≤ 100000 := (by rw [hBc.rp.len]; simp)
  clear M4
  go_cut [3] (fun v wx => v = .pointer (some ⟨xb, 0, none⟩) ∧ Mid w wx rb tb c l k1 b1 xb { data := #[105, 102] } [] ([] ++ [y1]) loc)
  case first =>
    go_region_law (first
      | (refine step_append_own2 (by rfl) (.tmp 85) (.tmp 88) 85 (by rfl) w.heap.size 26 i26 (.pointer none) 1 8 Tryz.underlying85 hi26 hz0 hz1 hz2 rfl (by decide) _ _ _ (by rfl) (hB5.kd.alloc _) ⟨w5.heap.size, 0, none⟩ 1 1 [.pointer (some ⟨yb, 0, none⟩)] (by rfl) rfl (fun q u hq => by match q, hq with | 0, hq => simp at hq; subst hq; simp [Addr.add]) (fun u hu => by simp at hu; subst hu; rfl) (by unfold maxLen; omega) (by omega) (by have := g5.size; have := hKd.size; simp; omega) (by decide) ?_; intro g6 cap6 w6 hown6 hgrow6 hfr6; have hx6 : w6.heap[xb]? = w5.heap[xb]? := (hgrow6.block xb (by simp; omega) (Ne.symm (row_ne hB5.kd hB5.blk (by decide)))).trans (Below.heap_alloc _ _ _ hx5); have s6 : w6.cell? ⟨xb, 2, none⟩ = some lv := (World.cell?_of_block (a := ⟨xb, 2, none⟩) hx6).trans s1; have f6 : w6.frozen? ⟨xb, 2, none⟩ = false := (World.frozen?_of_block (a := ⟨xb, 2, none⟩) hx6).trans s2; clear hx6)
      | (go_simp; go_wp2_with (go_at_call 40; refine (hE _ rb tb c _ _ y1 k1 b1 ?_ hkl HY1.out).mono ?_; exact rdd; rintro e w5 ⟨yb, yf, rfl, hyr, hyl, g5, r5, hk5⟩; have hB5 := hBd.kp g5 hrb; have s1 := hB5.c2; have s2 := hB5.fz 2; have hx5 := lt_of_block hB5.blk)))
    all_goals
      go_wp2_with fail
      go_meet
      case rel =>
        have hlow : ∀ b, b ∈ yf → w.heap.size ≤ b ∧ b ≠ xb ∧ nv.ownBlock ≠ some b ∧ lv.ownBlock ≠ some b := fun b hb => by
          have h1 := hyl b hb
          have h2 := hKd.size
          have h3 := lt_of_block hBd.blk
          refine ⟨by omega, by omega, fun e => ?_, fun e => ?_⟩
          · have := (hBd.nm.lt b e).2; omega
          · have := (hBd.kd.lt b e).2; omega
        have hK5 := hKd.trans (g5.mono fun q _ e => Or.inl e)
        exact ⟨rfl, mid_kid hrb htb hB5 hK5 r5 hk5 hyr hlow hown6 hgrow6 (hfr6.imp id (fun h => by first | omega | (simp at h; omega)))⟩
  case rest =>
    obtain ⟨rfl, M5⟩ := hcut
    clear hBc hBd hKd rdd cf hpl hkl
    go_wp2_with fail
    refine (need_any wc rb tb c l k1 b1 _ M5.rd M5.kl hl).mono ?_
    rintro e w7 ⟨rfl, g7, r7⟩
    have M6 := M5.step hrb g7 r7 (takeK_lt hG M5.kl (by decide) (by decide))
    clear M5 g7 r7
    go_wp2_with fail
    obtain ⟨nv, lv, ps, fk, hBc⟩ := M6.bl
    have hBd : Bld w7.drew w.heap.size xb { data := #[105, 102] } [] ([] ++ [y1]) loc nv lv ps fk := hBc.same (fun _ _ _ => rfl) (Reps.lt _ hBc.rp)
    have hKd := M6.drew.kp
    have rdd := M6.drew.rd
    have hkl := M6.kl
    have cf := hBc.c2
    have hpl : ps.length ≤ 100000 := (by rw [hBc.rp.len]; simp)
    clear M6
    go_cut [3] (fun v wx => v = .pointer (some ⟨xb, 0, none⟩) ∧ Mid w wx rb tb c l k2 b2 xb { data := #[105, 102] } [] (([] ++ [y1]) ++ [y2]) loc)
    case first =>
      go_region_law (first
        | (refine step_append_own2 (by rfl) (.tmp 98) (.tmp 101) 85 (by rfl) w.heap.size 26 i26 (.pointer none) 1 8 Tryz.underlying85 hi26 hz0 hz1 hz2 rfl (by decide) _ _ _ (by rfl) (hB5.kd.alloc _) ⟨w5.heap.size, 0, none⟩ 1 1 [.pointer (some ⟨yb, 0, none⟩)] (by rfl) rfl (fun q u hq => by match q, hq with | 0, hq => simp at hq; subst hq; simp [Addr.add]) (fun u hu => by simp at hu; subst hu; rfl) (by unfold maxLen; omega) (by omega) (by have := g5.size; have := hKd.size; simp; omega) (by decide) ?_; intro g6 cap6 w6 hown6 hgrow6 hfr6; have hx6 : w6.heap[xb]? = w5.heap[xb]? := (hgrow6.block xb (by simp; omega) (Ne.symm (row_ne hB5.kd hB5.blk (by decide)))).trans (Below.heap_alloc _ _ _ hx5); have s6 : w6.cell? ⟨xb, 2, none⟩ = some lv := (World.cell?_of_block (a := ⟨xb, 2, none⟩) hx6).trans s1; have f6 : w6.frozen? ⟨xb, 2, none⟩ = false := (World.frozen?_of_block (a := ⟨xb, 2, none⟩) hx6).trans s2; clear hx6)
        | (go_simp; go_wp2_with (go_at_call 40; refine (hE _ rb tb c _ _ y2 k2 b2 ?_ hkl HY2.out).mono ?_; exact rdd; rintro e w5 ⟨yb, yf, rfl, hyr, hyl, g5, r5, hk5⟩; have hB5 := hBd.kp g5 hrb; have s1 := hB5.c2; have s2 := hB5.fz 2; have hx5 := lt_of_block hB5.blk)))
      all_goals
        go_wp2_with fail
        go_meet
        case rel =>
          have hlow : ∀ b, b ∈ yf → w.heap.size ≤ b ∧ b ≠ xb ∧ nv.ownBlock ≠ some b ∧ lv.ownBlock ≠ some b := fun b hb => by
            have h1 := hyl b hb
            have h2 := hKd.size
            have h3 := lt_of_block hBd.blk
            refine ⟨by omega, by omega, fun e => ?_, fun e => ?_⟩
            · have := (hBd.nm.lt b e).2; omega
            · have := (hBd.kd.lt b e).2; omega
          have hK5 := hKd.trans (g5.mono fun q _ e => Or.inl e)
          exact ⟨rfl, mid_kid hrb htb hB5 hK5 r5 hk5 hyr hlow hown6 hgrow6 (hfr6.imp id (fun h => by first | omega | (simp at h; omega)))⟩
    case rest =>
      obtain ⟨rfl, M7⟩ := hcut
      clear hBc hBd hKd rdd cf hpl hkl
      go_wp2_with fail
      refine (need_any wc rb tb c l k2 b2 _ M7.rd M7.kl hl).mono ?_
      rintro e w8 ⟨rfl, g8, r8⟩
      have M8 := M7.step hrb g8 r8 (takeK_lt hG M7.kl (by decide) (by decide))
      clear M7 g8 r8
      go_wp2_with fail
      obtain ⟨nv, lv, ps, fk, hBc⟩ := M8.bl
      have hBd : Bld w8.drew w.heap.size xb { data := #[105, 102] } [] (([] ++ [y1]) ++ [y2]) loc nv lv ps fk := hBc.same (fun _ _ _ => rfl) (Reps.lt _ hBc.rp)
      have hKd := M8.drew.kp
      have rdd := M8.drew.rd
      have hkl := M8.kl
      have cf := hBc.c2
      have hpl : ps.length ≤ 100000 := (by rw [hBc.rp.len]; simp)
      clear M8
      go_region_law (first
        | (refine step_append_own2 (by rfl) (.tmp 111) (.tmp 114) 85 (by rfl) w.heap.size 26 i26 (.pointer none) 1 8 Tryz.underlying85 hi26 hz0 hz1 hz2 rfl (by decide) _ _ _ (by rfl) (hB5.kd.alloc _) ⟨w5.heap.size, 0, none⟩ 1 1 [.pointer (some ⟨yb, 0, none⟩)] (by rfl) rfl (fun q u hq => by match q, hq with | 0, hq => simp at hq; subst hq; simp [Addr.add]) (fun u hu => by simp at hu; subst hu; rfl) (by unfold maxLen; omega) (by omega) (by have := g5.size; have := hKd.size; simp; omega) (by decide) ?_; intro g6 cap6 w6 hown6 hgrow6 hfr6; have hx6 : w6.heap[xb]? = w5.heap[xb]? := (hgrow6.block xb (by simp; omega) (Ne.symm (row_ne hB5.kd hB5.blk (by decide)))).trans (Below.heap_alloc _ _ _ hx5); have s6 : w6.cell? ⟨xb, 2, none⟩ = some lv := (World.cell?_of_block (a := ⟨xb, 2, none⟩) hx6).trans s1; have f6 : w6.frozen? ⟨xb, 2, none⟩ = false := (World.frozen?_of_block (a := ⟨xb, 2, none⟩) hx6).trans s2; clear hx6)
        | (go_simp; go_wp2_with (go_at_call 40; refine (hE _ rb tb c _ _ y3 k3 b3 ?_ hkl HY3.out).mono ?_; exact rdd; rintro e w5 ⟨yb, yf, rfl, hyr, hyl, g5, r5, hk5⟩; have hB5 := hBd.kp g5 hrb; have s1 := hB5.c2; have s2 := hB5.fz 2; have hx5 := lt_of_block hB5.blk)))
      all_goals
        have hlow : ∀ b, b ∈ yf → w.heap.size ≤ b ∧ b ≠ xb ∧ nv.ownBlock ≠ some b ∧ lv.ownBlock ≠ some b := fun b hb => by
          have h1 := hyl b hb
          have h2 := hKd.size
          have h3 := lt_of_block hBd.blk
          refine ⟨by omega, by omega, fun e => ?_, fun e => ?_⟩
          · have := (hBd.nm.lt b e).2; omega
          · have := (hBd.kd.lt b e).2; omega
        have hK5 := hKd.trans (g5.mono fun q _ e => Or.inl e)
        have M9 := mid_kid hrb htb hB5 hK5 r5 hk5 hyr hlow hown6 hgrow6 (hfr6.imp id (fun h => by first | omega | (simp at h; omega)))
        clear hBd hBc hKd hK5 hown6 hgrow6
        go_wp2
        go_ret
        exact M9.end
end Go.Proofs.YtleenphlgbklmaaGreatDoor
