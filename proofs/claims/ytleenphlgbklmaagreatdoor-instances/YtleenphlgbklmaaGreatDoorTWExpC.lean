import Derived.Test.YtleenphlgbklmaaGreatDoorTWFun
set_option linter.unusedVariables false
set_option linter.unusedSimpArgs false
namespace Go.Proofs.YtleenphlgbklmaaGreatDoor
open Go.RowKit

theorem boundM_len {l : List Tk} {n : Nat} {names : List ByteArray} {kids : List X} {k : Nat} {bad : Int} {r : List ByteArray × List X × Nat × Int} (h : boundM l n names kids k bad = some r) : r.1.length = names.length + 1 ∧ r.2.1.length = kids.length + 1 := by
  cases n with
  | zero => simp [boundM] at h
  | succ n =>
    simp only [boundM] at h
    obtain ⟨y, _, hq⟩ := Option.bind_eq_some_iff.1 h
    simp only [Option.some.injEq] at hq
    subst hq
    simp

set_option maxRecDepth 20000 in
set_option maxHeartbeats 4000000 in
theorem exp_let (l : List Tk) (hl : l.length ≤ 1000) (hG : Good l) (n : Nat) (hE : SExp l n) (w : World) (rb tb c k : Nat) (bad : Int) (x : X) (k' : Nat) (bad' : Int) (h : Rd w rb tb c l k bad) (hk : k < l.length) (hF0 : isM l { data := #[102, 117, 110] } k bad = false) (hF1 : isM l { data := #[105, 102] } k bad = false) (hF : isM l { data := #[108, 101, 116] } k bad = true) (hRc : isM l { data := #[114, 101, 99] } (k + 1) bad = false) (hBn : SBound l n) (hM : expM l (n + 1) k bad = some (x, k', bad')) :
    Calls Tryz.prog 40 #[.pointer (some ⟨rb, 0, none⟩)] w fun e w' => ∃ b fs, e = .returned (.pointer (some ⟨b, 0, none⟩)) ∧ Rep w' x (.pointer (some ⟨b, 0, none⟩)) fs ∧ (∀ q, q ∈ fs → w.heap.size ≤ q) ∧ Kp (· = rb) w w' ∧ Rd w' rb tb c l k' bad' ∧ k' < l.length := by
  have h0 := h.c0
  have h1 := h.c1
  have h2 := h.c2
  have t2 := (h.tk k hk).2.2
  have hrb := h.lt
  have htb : tb < w.heap.size := World.block_lt_of_cell? _ _ t2
  have hb := isM_bad hF
  have hb0 : ¬ 0 ≤ bad := by omega
  have hk1 := isM_lt hG hk hF (by decide) (by decide)
  have hF0n : ¬ isM l { data := #[102, 117, 110] } k bad = true := by rw [hF0]; decide
  have hF1n : ¬ isM l { data := #[105, 102] } k bad = true := by rw [hF1]; decide
  have hRn : ¬ isM l { data := #[114, 101, 99] } (k + 1) bad = true := by rw [hRc]; decide
  simp only [expM, if_neg hb0, hF0, hF1, hF, hRc, if_true, if_false, Bool.false_eq_true] at hM
  obtain ⟨⟨nms, kds, k1, b1⟩, hy1, hq⟩ := Option.bind_eq_some_iff.1 hM
  obtain ⟨⟨y2, k2, b2⟩, hy2, hq⟩ := Option.bind_eq_some_iff.1 hq
  simp only [Option.some.injEq, Prod.mk.injEq] at hq
  obtain ⟨rfl, rfl, rfl⟩ := hq
  have hln : kds.length ≤ 100000 := by have := (boundM_len hy1).2; simp at this; omega
  have HY1 : Hid _ := hy1
  have HY2 : Hid _ := hy2
  clear hM hy1 hy2 hb0
  have M := (mid_start h hk (tkAt l k).loc).drew
  obtain ⟨i9, hi9, hz90, hz91, hz92⟩ := info_parts Tryz.info9
  obtain ⟨i26, hi26, hz0, hz1, hz2⟩ := info_parts Tryz.info26
  generalize (tkAt l k).loc = loc at *
  go_enter Tryz.func40, Tryz.ntmps40
  go_wp2
  go_region
  go_wp2_with fail
  clear h h0 h1 h2 t2
  generalize (w.alloc (.cells #[.string { data := #[] }, .slice none 0 0, .slice none 0 0, .int .i64 loc] 87)).drew = w1 at *
  refine (take_any w1 rb tb c l k bad _ M.rd hk hl).mono ?_
  rintro e w2 ⟨rfl, g2, r2⟩
  rw [takeK, if_neg hF0n] at r2
  have M1 := M.step hrb g2 r2 hk
  rw [hF0]
  clear M g2 r2
  go_wp2_with fail
  refine (take_any w2 rb tb c l k bad _ M1.rd hk hl).mono ?_
  rintro e w2a ⟨rfl, g2, r2⟩
  rw [takeK, if_neg hF1n] at r2
  have M1a := M1.step hrb g2 r2 hk
  rw [hF1]
  clear M1 g2 r2
  go_wp2_with fail
  refine (take_any w2a rb tb c l k bad _ M1a.rd hk hl).mono ?_
  rintro e w2b ⟨rfl, g2, r2⟩
  rw [takeK, if_pos hF] at r2
  have M2 := M1a.step hrb g2 r2 hk1
  rw [hF]
  clear M1a g2 r2 hF
  have c0 : w2b.cell? ⟨w.heap.size, 0, none⟩ = some (.string { data := #[] }) := by obtain ⟨_, _, _, _, hB⟩ := M2.bl; exact hB.c0
  have f0 : w2b.frozen? ⟨w.heap.size, 0, none⟩ = false := by obtain ⟨_, _, _, _, hB⟩ := M2.bl; exact hB.fz 0
  have M3' := M2.setOp hrb htb { data := #[108, 101, 116] }
  obtain ⟨xb, hxb⟩ : ∃ xb, xb = w.heap.size := ⟨_, rfl⟩
  have hxw : w.heap.size ≤ xb := by omega
  rw [← hxb] at c0 f0 ⊢
  clear M2
  have M4 : Mid w (w2b.setCell ⟨xb, 0, none⟩ (.string { data := #[108, 101, 116] })) rb tb c l (k + 1) bad xb { data := #[108, 101, 116] } [] [] loc := by rw [hxb]; exact M3'
  clear M3' hxb
  go_wp2_with fail
  generalize w2b.setCell ⟨xb, 0, none⟩ (.string { data := #[108, 101, 116] }) = w3 at *
  clear c0 f0
  clear hF0 hF0n hF1 hF1n
  refine (take_any w3 rb tb c l (k + 1) bad _ M4.rd hk1 hl).mono ?_
  rintro e w4 ⟨rfl, g4, r4⟩
  rw [takeK, if_neg hRn] at r4
  have M5 := M4.step hrb g4 r4 hk1
  rw [hRc]
  clear M4 g4 r4 hRn
  obtain ⟨nv, lv, ps, fk, hBl⟩ := M5.bl
  go_wp2_with fail
  refine (hBn w4 rb tb c (k + 1) bad w.heap.size xb { data := #[108, 101, 116] } [] [] loc nv lv ps fk nms kds k1 b1 M5.rd hk1 hBl hrb htb M5.kp.size (by simp) (by simp) HY1.out).mono ?_
  rintro e w5 ⟨rfl, hBB, hK5, r5, hk5⟩
  have M6 : Mid w w5 rb tb c l k1 b1 xb { data := #[108, 101, 116] } nms kds loc := ⟨hBB, M5.kp.trans hK5, r5, hk5⟩
  have c0 : w5.cell? ⟨xb, 0, none⟩ = some (.string { data := #[108, 101, 116] }) := by obtain ⟨_, _, _, _, hB⟩ := M6.bl; exact hB.c0
  clear hBB hK5 r5 hk5 M5 hBl HY1 hBn
  go_wp2_with fail
  refine wp_loop_rounds 1 ?_
  rw [rounds_succ]
  go_wp2_with fail
  refine (need_any w5 rb tb c l k1 b1 _ M6.rd M6.kl hl).mono ?_
  rintro e w7 ⟨rfl, g7, r7⟩
  have M7 := M6.step hrb g7 r7 (takeK_lt hG M6.kl (by decide) (by decide))
  clear M6 g7 r7 c0
  go_wp2_with fail
  obtain ⟨nv, lv, ps, fk, hBc⟩ := M7.bl
  have hBd : Bld w7.drew w.heap.size xb { data := #[108, 101, 116] } nms kds loc nv lv ps fk := hBc.same (fun _ _ _ => rfl) (Reps.lt _ hBc.rp)
  have hKd := M7.drew.kp
  have rdd := M7.drew.rd
  have hkl := M7.kl
  have cf := hBc.c2
  have hpl : ps.length ≤ 100000 := (by rw [hBc.rp.len]; exact hln)
  clear M7
  go_region_law (first
    | (refine step_append_own2 (by rfl) (.tmp 150) (.tmp 153) 85 (by rfl) w.heap.size 26 i26 (.pointer none) 1 8 Tryz.underlying85 hi26 hz0 hz1 hz2 rfl (by decide) _ _ _ (by rfl) (hB5.kd.alloc _) ⟨w5.heap.size, 0, none⟩ 1 1 [.pointer (some ⟨yb, 0, none⟩)] (by rfl) rfl (fun q u hq => by match q, hq with | 0, hq => simp at hq; subst hq; simp [Addr.add]) (fun u hu => by simp at hu; subst hu; rfl) (by unfold maxLen; omega) (by omega) (by have := g5.size; have := hKd.size; simp; omega) (by decide) ?_; intro g6 cap6 w6 hown6 hgrow6 hfr6; have hx6 : w6.heap[xb]? = w5.heap[xb]? := (hgrow6.block xb (by simp; omega) (Ne.symm (row_ne hB5.kd hB5.blk (by decide)))).trans (Below.heap_alloc _ _ _ hx5); have s6 : w6.cell? ⟨xb, 2, none⟩ = some lv := (World.cell?_of_block (a := ⟨xb, 2, none⟩) hx6).trans s1; have f6 : w6.frozen? ⟨xb, 2, none⟩ = false := (World.frozen?_of_block (a := ⟨xb, 2, none⟩) hx6).trans s2; clear hx6)
    | (go_simp; go_wp2_with (go_at_call 40; refine (hE _ rb tb c _ _ y2 k2 b2 ?_ hkl HY2.out).mono ?_; exact rdd; rintro e w5 ⟨yb, yf, rfl, hyr, hyl, g5, r5, hk5⟩; have hB5 := hBd.kp g5 hrb; have s1 := hB5.c2; have s2 := hB5.fz 2; have hx5 := lt_of_block hB5.blk)))
  all_goals
    have hlow : ∀ b, b ∈ yf → w.heap.size ≤ b ∧ b ≠ xb ∧ nv.ownBlock ≠ some b ∧ lv.ownBlock ≠ some b := fun b hb => by
      have h1 := hyl b hb
      have h2 := hKd.size
      have h3 := lt_of_block hBd.blk
      refine ⟨by omega, by omega, fun e => ?_, fun e => ?_⟩
      · have := (hBd.nm.lt b e).2; omega
      · have := (hBd.kd.lt b e).2; omega
    have hK5 := hKd.trans (g5.mono fun q _ e => Or.inl e)
    have M9 := mid_kid hrb htb hB5 hK5 r5 hk5 hyr hlow hown6 hgrow6 (hfr6.imp id (fun h => by first | omega | (simp at h; omega)))
    clear hBd hBc hKd hK5 hown6 hgrow6
    go_wp2
    go_ret
    exact M9.end

set_option maxRecDepth 20000 in
set_option maxHeartbeats 4000000 in
theorem exp_rec (l : List Tk) (hl : l.length ≤ 1000) (hG : Good l) (n : Nat) (hE : SExp l n) (w : World) (rb tb c k : Nat) (bad : Int) (x : X) (k' : Nat) (bad' : Int) (h : Rd w rb tb c l k bad) (hk : k < l.length) (hn : n ≤ 50000) (hF0 : isM l { data := #[102, 117, 110] } k bad = false) (hF1 : isM l { data := #[105, 102] } k bad = false) (hF : isM l { data := #[108, 101, 116] } k bad = true) (hRc : isM l { data := #[114, 101, 99] } (k + 1) bad = true) (hBn : ∀ m, m ≤ n → SBound l m) (hM : expM l (n + 1) k bad = some (x, k', bad')) :
    Calls Tryz.prog 40 #[.pointer (some ⟨rb, 0, none⟩)] w fun e w' => ∃ b fs, e = .returned (.pointer (some ⟨b, 0, none⟩)) ∧ Rep w' x (.pointer (some ⟨b, 0, none⟩)) fs ∧ (∀ q, q ∈ fs → w.heap.size ≤ q) ∧ Kp (· = rb) w w' ∧ Rd w' rb tb c l k' bad' ∧ k' < l.length := by
  have h0 := h.c0
  have h1 := h.c1
  have h2 := h.c2
  have t2 := (h.tk k hk).2.2
  have hrb := h.lt
  have htb : tb < w.heap.size := World.block_lt_of_cell? _ _ t2
  have hb := isM_bad hF
  have hb0 : ¬ 0 ≤ bad := by omega
  have hk1 := isM_lt hG hk hF (by decide) (by decide)
  have hk2 := isM_lt hG hk1 hRc (by decide) (by decide)
  have hF0n : ¬ isM l { data := #[102, 117, 110] } k bad = true := by rw [hF0]; decide
  have hF1n : ¬ isM l { data := #[105, 102] } k bad = true := by rw [hF1]; decide
  simp only [expM, if_neg hb0, hF0, hF1, hF, hRc, if_true, if_false, Bool.false_eq_true] at hM
  obtain ⟨⟨nm0, kd0, k0, b0⟩, hy1, hq⟩ := Option.bind_eq_some_iff.1 hM
  obtain ⟨⟨nms, kds, k1, b1⟩, hy3, hq⟩ := Option.bind_eq_some_iff.1 hq
  obtain ⟨⟨y2, k2, b2⟩, hy2, hq⟩ := Option.bind_eq_some_iff.1 hq
  simp only [Option.some.injEq, Prod.mk.injEq] at hq
  obtain ⟨rfl, rfl, rfl⟩ := hq
  have hl0 := boundM_len hy1
  simp only [List.length_nil, Nat.zero_add] at hl0
  have HL0 : Hid _ := hl0
  have HY1 : Hid _ := hy1
  have HY2 : Hid _ := hy2
  have HY3 : Hid _ := hy3
  clear hM hy1 hy2 hy3 hb0 hl0
  have M := (mid_start h hk (tkAt l k).loc).drew
  obtain ⟨i9, hi9, hz90, hz91, hz92⟩ := info_parts Tryz.info9
  obtain ⟨i26, hi26, hz0, hz1, hz2⟩ := info_parts Tryz.info26
  generalize (tkAt l k).loc = loc at *
  go_enter Tryz.func40, Tryz.ntmps40
  go_wp2
  go_region
  go_wp2_with fail
  clear h h0 h1 h2 t2
  generalize (w.alloc (.cells #[.string { data := #[] }, .slice none 0 0, .slice none 0 0, .int .i64 loc] 87)).drew = w1 at *
  refine (take_any w1 rb tb c l k bad _ M.rd hk hl).mono ?_
  rintro e w2 ⟨rfl, g2, r2⟩
  rw [takeK, if_neg hF0n] at r2
  have M1 := M.step hrb g2 r2 hk
  rw [hF0]
  clear M g2 r2
  go_wp2_with fail
  refine (take_any w2 rb tb c l k bad _ M1.rd hk hl).mono ?_
  rintro e w2a ⟨rfl, g2, r2⟩
  rw [takeK, if_neg hF1n] at r2
  have M1a := M1.step hrb g2 r2 hk
  rw [hF1]
  clear M1 g2 r2
  go_wp2_with fail
  refine (take_any w2a rb tb c l k bad _ M1a.rd hk hl).mono ?_
  rintro e w2b ⟨rfl, g2, r2⟩
  rw [takeK, if_pos hF] at r2
  have M2 := M1a.step hrb g2 r2 hk1
  rw [hF]
  clear M1a g2 r2 hF
  have c0 : w2b.cell? ⟨w.heap.size, 0, none⟩ = some (.string { data := #[] }) := by obtain ⟨_, _, _, _, hB⟩ := M2.bl; exact hB.c0
  have f0 : w2b.frozen? ⟨w.heap.size, 0, none⟩ = false := by obtain ⟨_, _, _, _, hB⟩ := M2.bl; exact hB.fz 0
  have M3' := M2.setOp hrb htb { data := #[108, 101, 116] }
  obtain ⟨xb, hxb⟩ : ∃ xb, xb = w.heap.size := ⟨_, rfl⟩
  have hxw : w.heap.size ≤ xb := by omega
  rw [← hxb] at c0 f0 ⊢
  clear M2
  have M4 : Mid w (w2b.setCell ⟨xb, 0, none⟩ (.string { data := #[108, 101, 116] })) rb tb c l (k + 1) bad xb { data := #[108, 101, 116] } [] [] loc := by rw [hxb]; exact M3'
  clear M3' hxb
  go_wp2_with fail
  generalize w2b.setCell ⟨xb, 0, none⟩ (.string { data := #[108, 101, 116] }) = w3 at *
  clear c0 f0
  clear hF0 hF0n hF1 hF1n
  refine (take_any w3 rb tb c l (k + 1) bad _ M4.rd hk1 hl).mono ?_
  rintro e w4 ⟨rfl, g4, r4⟩
  rw [takeK, if_pos hRc] at r4
  have M5 := M4.step hrb g4 r4 hk2
  rw [hRc]
  clear M4 g4 r4 hRc
  have c0 : w4.cell? ⟨xb, 0, none⟩ = some (.string { data := #[108, 101, 116] }) := by obtain ⟨_, _, _, _, hB⟩ := M5.bl; exact hB.c0
  have f0 : w4.frozen? ⟨xb, 0, none⟩ = false := by obtain ⟨_, _, _, _, hB⟩ := M5.bl; exact hB.fz 0
  have M5b := M5.setOp hrb htb { data := #[114, 101, 99] }
  clear M5
  go_wp2_with fail
  generalize w4.setCell ⟨xb, 0, none⟩ (.string { data := #[114, 101, 99] }) = w4b at *
  clear c0 f0
  obtain ⟨nv, lv, ps, fk, hBl⟩ := M5b.bl
  refine (hBn n (Nat.le_refl _) w4b rb tb c (k + 1 + 1) bad w.heap.size xb { data := #[114, 101, 99] } [] [] loc nv lv ps fk nm0 kd0 k0 b0 M5b.rd hk2 hBl hrb htb M5b.kp.size (by simp) (by simp) HY1.out).mono ?_
  rintro e w5 ⟨rfl, hBB, hK5, r5, hk5⟩
  have M6 : Mid w w5 rb tb c l k0 b0 xb { data := #[114, 101, 99] } nm0 kd0 loc := ⟨hBB, M5b.kp.trans hK5, r5, hk5⟩
  clear hBB hK5 r5 hk5 M5b hBl HY1
  go_wp2_with fail
  go_loopg [132] n (fun m _ wr => ∃ (nm : List ByteArray) (kd : List X) (kq : Nat) (bq : Int), Mid w wr rb tb c l kq bq xb { data := #[114, 101, 99] } nm kd loc ∧ andM l m nm kd kq bq = some (nms, kds, k1, b1) ∧ nm.length + m ≤ n + 1 ∧ kd.length + m ≤ n + 1 ∧ m ≤ n)
  case atStart => exact ⟨nm0, kd0, k0, b0, M6, HY3.out, by rw [HL0.out.1]; omega, by rw [HL0.out.2]; omega, Nat.le_refl _⟩
  case round =>
    clear M6 HY3 HL0
    obtain ⟨nm, kd, kq, bq, M6, hA, hl1, hl2, hmn⟩ := hrel
    have HA : Hid (andM l gk nm kd kq bq = some (nms, kds, k1, b1)) := hA
    clear hA
    have c0 : wr.cell? ⟨xb, 0, none⟩ = some (.string { data := #[114, 101, 99] }) := by obtain ⟨_, _, _, _, hB⟩ := M6.bl; exact hB.c0
    obtain ⟨m, rfl⟩ : ∃ m, gk = m + 1 := by
      cases gk with
      | zero => have := HA.out; simp [andM] at this
      | succ m => exact ⟨m, rfl⟩
    by_cases hAnd : isM l { data := #[97, 110, 100] } kq bq = true
    · have hkq := isM_lt hG M6.kl hAnd (by decide) (by decide)
      have hq := HA.out
      simp only [andM, hAnd, if_true] at hq
      obtain ⟨⟨nm2, kd2, kq2, bq2⟩, hz1, hz2⟩ := Option.bind_eq_some_iff.1 hq
      have hz3 := boundM_len hz1
      simp only at hz3
      have HZ1 : Hid _ := hz1
      have HZ2 : Hid _ := hz2
      have HZ3 : Hid _ := hz3
      clear hq hz1 hz2 hz3 HA
      go_wp2_with fail
      refine (take_any wr rb tb c l kq bq _ M6.rd M6.kl hl).mono ?_
      rintro e w7 ⟨rfl, g7, r7⟩
      rw [takeK, if_pos hAnd] at r7
      have M7 := M6.step hrb g7 r7 hkq
      rw [hAnd]
      clear M6 g7 r7 hAnd c0
      obtain ⟨nv, lv, ps, fk, hBl⟩ := M7.bl
      go_wp2_with fail
      refine (hBn m (by omega) w7 rb tb c (kq + 1) bq w.heap.size xb { data := #[114, 101, 99] } nm kd loc nv lv ps fk nm2 kd2 kq2 bq2 M7.rd hkq hBl hrb htb M7.kp.size (by omega) (by omega) HZ1.out).mono ?_
      rintro e w8 ⟨rfl, hBB, hK8, r8, hk8⟩
      have M8 : Mid w w8 rb tb c l kq2 bq2 xb { data := #[114, 101, 99] } nm2 kd2 loc := ⟨hBB, M7.kp.trans hK8, r8, hk8⟩
      clear hBB hK8 r8 hk8 M7 hBl HZ1
      go_wp2
      go_roundg m
      case measure => omega
      case rel => exact ⟨nm2, kd2, kq2, bq2, M8, HZ2.out, by rw [HZ3.out.1]; omega, by rw [HZ3.out.2]; omega, by omega⟩
    · have hAnd' : isM l { data := #[97, 110, 100] } kq bq = false := by simpa using hAnd
      have hq := HA.out
      simp only [andM, hAnd', if_false, Bool.false_eq_true, Option.some.injEq, Prod.mk.injEq] at hq
      obtain ⟨rfl, rfl, rfl, rfl⟩ := hq
      clear HA
      go_wp2_with fail
      refine (take_any wr rb tb c l kq bq _ M6.rd M6.kl hl).mono ?_
      rintro e w7 ⟨rfl, g7, r7⟩
      rw [takeK, if_neg hAnd] at r7
      have M7 := M6.step hrb g7 r7 M6.kl
      rw [hAnd']
      clear M6 g7 r7 hAnd hAnd' c0
      go_wp2_with fail
      refine (need_any w7 rb tb c l kq bq _ M7.rd M7.kl hl).mono ?_
      rintro e w9 ⟨rfl, g9, r9⟩
      have M9 := M7.step hrb g9 r9 (takeK_lt hG M7.kl (by decide) (by decide))
      clear M7 g9 r9
      have hln : kd.length ≤ 100000 := by omega
      go_wp2_with fail
      obtain ⟨nv, lv, ps, fk, hBc⟩ := M9.bl
      have hBd : Bld w9.drew w.heap.size xb { data := #[114, 101, 99] } nm kd loc nv lv ps fk := hBc.same (fun _ _ _ => rfl) (Reps.lt _ hBc.rp)
      have hKd := M9.drew.kp
      have rdd := M9.drew.rd
      have hkl := M9.kl
      have cf := hBc.c2
      have hpl : ps.length ≤ 100000 := (by rw [hBc.rp.len]; exact hln)
      clear M9
      go_region_law (first
        | (refine step_append_own2 (by rfl) (.tmp 150) (.tmp 153) 85 (by rfl) w.heap.size 26 i26 (.pointer none) 1 8 Tryz.underlying85 hi26 hz0 hz1 hz2 rfl (by decide) _ _ _ (by rfl) (hB5.kd.alloc _) ⟨w5.heap.size, 0, none⟩ 1 1 [.pointer (some ⟨yb, 0, none⟩)] (by rfl) rfl (fun q u hq => by match q, hq with | 0, hq => simp at hq; subst hq; simp [Addr.add]) (fun u hu => by simp at hu; subst hu; rfl) (by unfold maxLen; omega) (by omega) (by have := g5.size; have := hKd.size; simp; omega) (by decide) ?_; intro g6 cap6 w6 hown6 hgrow6 hfr6; have hx6 : w6.heap[xb]? = w5.heap[xb]? := (hgrow6.block xb (by simp; omega) (Ne.symm (row_ne hB5.kd hB5.blk (by decide)))).trans (Below.heap_alloc _ _ _ hx5); have s6 : w6.cell? ⟨xb, 2, none⟩ = some lv := (World.cell?_of_block (a := ⟨xb, 2, none⟩) hx6).trans s1; have f6 : w6.frozen? ⟨xb, 2, none⟩ = false := (World.frozen?_of_block (a := ⟨xb, 2, none⟩) hx6).trans s2; clear hx6)
        | (go_simp; go_wp2_with (go_at_call 40; refine (hE _ rb tb c _ _ y2 k2 b2 ?_ hkl HY2.out).mono ?_; exact rdd; rintro e w5 ⟨yb, yf, rfl, hyr, hyl, g5, r5, hk5⟩; have hB5 := hBd.kp g5 hrb; have s1 := hB5.c2; have s2 := hB5.fz 2; have hx5 := lt_of_block hB5.blk)))
      all_goals
        have hlow : ∀ b, b ∈ yf → w.heap.size ≤ b ∧ b ≠ xb ∧ nv.ownBlock ≠ some b ∧ lv.ownBlock ≠ some b := fun b hb => by
          have h1 := hyl b hb
          have h2 := hKd.size
          have h3 := lt_of_block hBd.blk
          refine ⟨by omega, by omega, fun e => ?_, fun e => ?_⟩
          · have := (hBd.nm.lt b e).2; omega
          · have := (hBd.kd.lt b e).2; omega
        have hK5 := hKd.trans (g5.mono fun q _ e => Or.inl e)
        have MZ := mid_kid hrb htb hB5 hK5 r5 hk5 hyr hlow hown6 hgrow6 (hfr6.imp id (fun h => by first | omega | (simp at h; omega)))
        clear hBd hBc hKd hK5 hown6 hgrow6
        go_wp2
        go_ret
        exact MZ.end
end Go.Proofs.YtleenphlgbklmaaGreatDoor
