import Derived.Test.YtleenphlgbklmaaGreatDoorTWFun
set_option linter.unusedVariables false
set_option linter.unusedSimpArgs false
namespace Go.Proofs.YtleenphlgbklmaaGreatDoor
open Go.RowKit

theorem Rep.c3 {w : World} {x : X} {b : Nat} {fs : List Nat} (h : Rep w x (.pointer (some ⟨b, 0, none⟩)) fs) : w.cell? ⟨b, 3, none⟩ = some (.int .i64 x.loc) ∧ b ∈ fs := by
  cases x with
  | mk op names kids loc =>
    simp only [Rep] at h
    obtain ⟨b', nv, lv, ps, fk, h1, h2, _, _, _, h6⟩ := h
    injection h1 with h1
    injection h1 with h1
    injection h1 with h1
    subst h1 h6
    exact ⟨by simp [World.cell?, h2, X.loc], by simp⟩

set_option maxRecDepth 20000 in
set_option maxHeartbeats 4000000 in
theorem exp_atoms (l : List Tk) (hl : l.length ≤ 1000) (hG : Good l) (n : Nat) (hE : SExp l n) (w : World) (rb tb c k : Nat) (bad : Int) (x : X) (k' : Nat) (bad' : Int) (h : Rd w rb tb c l k bad) (hk : k < l.length) (hb : bad < 0) (hF0 : isM l { data := #[102, 117, 110] } k bad = false) (hF1 : isM l { data := #[105, 102] } k bad = false) (hF2 : isM l { data := #[108, 101, 116] } k bad = false) (hAt : ∀ m, m ≤ n → SAtom l m) (hM : expM l (n + 1) k bad = some (x, k', bad')) :
    Calls Tryz.prog 40 #[.pointer (some ⟨rb, 0, none⟩)] w fun e w' => ∃ b fs, e = .returned (.pointer (some ⟨b, 0, none⟩)) ∧ Rep w' x (.pointer (some ⟨b, 0, none⟩)) fs ∧ (∀ q, q ∈ fs → w.heap.size ≤ q) ∧ Kp (· = rb) w w' ∧ Rd w' rb tb c l k' bad' ∧ k' < l.length := by
  have h0 := h.c0
  have h1 := h.c1
  have h2 := h.c2
  have t2 := (h.tk k hk).2.2
  have hrb := h.lt
  have htb : tb < w.heap.size := World.block_lt_of_cell? _ _ t2
  have hb0 : ¬ 0 ≤ bad := by omega
  have hF0n : ¬ isM l { data := #[102, 117, 110] } k bad = true := by rw [hF0]; decide
  have hF1n : ¬ isM l { data := #[105, 102] } k bad = true := by rw [hF1]; decide
  have hF2n : ¬ isM l { data := #[108, 101, 116] } k bad = true := by rw [hF2]; decide
  simp only [expM, if_neg hb0, hF0, hF1, hF2, if_false, Bool.false_eq_true] at hM
  obtain ⟨⟨y0, k0, b0⟩, hy0, hq⟩ := Option.bind_eq_some_iff.1 hM
  have HY0 : Hid _ := hy0
  have HQ : Hid (appM l n y0 k0 b0 = some (x, k', bad')) := hq
  clear hM hy0 hq hb0 hE
  have M := (mid_start h hk (tkAt l k).loc).drew
  obtain ⟨i9, hi9, hz90, hz91, hz92⟩ := info_parts Tryz.info9
  obtain ⟨i26, hi26, hz0, hz1, hz2⟩ := info_parts Tryz.info26
  generalize (tkAt l k).loc = loc at *
  go_enter Tryz.func40, Tryz.ntmps40
  go_wp2
  go_region
  go_wp2_with fail
  clear h h0 h1 h2 t2
  generalize (w.alloc (.cells #[.string { data := #[] }, .slice none 0 0, .slice none 0 0, .int .i64 loc] 87)).drew = w1 at *
  refine (take_any w1 rb tb c l k bad _ M.rd hk hl).mono ?_
  rintro e w2 ⟨rfl, g2, r2⟩
  rw [takeK, if_neg hF0n] at r2
  have M1 := M.step hrb g2 r2 hk
  rw [hF0]
  clear M g2 r2
  go_wp2_with fail
  refine (take_any w2 rb tb c l k bad _ M1.rd hk hl).mono ?_
  rintro e w2a ⟨rfl, g2, r2⟩
  rw [takeK, if_neg hF1n] at r2
  have M1a := M1.step hrb g2 r2 hk
  rw [hF1]
  clear M1 g2 r2
  go_wp2_with fail
  refine (take_any w2a rb tb c l k bad _ M1a.rd hk hl).mono ?_
  rintro e w2b ⟨rfl, g2, r2⟩
  rw [takeK, if_neg hF2n] at r2
  have M2 := M1a.step hrb g2 r2 hk
  rw [hF2]
  clear M1a g2 r2
  go_wp2_with fail
  clear hF0 hF0n hF1 hF1n hF2 hF2n
  refine (hAt n (Nat.le_refl _) w2b rb tb c k bad y0 k0 b0 M2.rd hk HY0.out).mono ?_
  rintro e w3 ⟨yb, yf, rfl, hyr, hyl, g3, r3, hk3⟩
  have hK3 : Kp (· = rb) w w3 := (M2.kp.mono (fun q hq e => by rcases e with e | e; exact e; omega)).trans g3
  have hyl3 : ∀ q, q ∈ yf → w.heap.size ≤ q := fun q hq => Nat.le_trans M2.kp.size (hyl q hq)
  clear M2 g3 hyl HY0
  go_wp2_with fail
  go_loopg [3] n (fun m v wr => ∃ (y : X) (b : Nat) (fs : List Nat) (kq : Nat) (bq : Int), v = .pointer (some ⟨b, 0, none⟩) ∧ Rep wr y (.pointer (some ⟨b, 0, none⟩)) fs ∧ (∀ q, q ∈ fs → w.heap.size ≤ q) ∧ Kp (· = rb) w wr ∧ Rd wr rb tb c l kq bq ∧ kq < l.length ∧ appM l m y kq bq = some (x, k', bad') ∧ m ≤ n)
  case atStart => exact ⟨y0, yb, yf, k0, b0, rfl, hyr, hyl3, hK3, r3, hk3, HQ.out, Nat.le_refl _⟩
  case round =>
    clear hyr hyl3 hK3 r3 hk3 HQ
    obtain ⟨y, b, fs, kq, bq, rfl, hyr, hyl, hKr, hRr, hkq, hA, hmn⟩ := hrel
    have HA : Hid (appM l gk y kq bq = some (x, k', bad')) := hA
    clear hA
    obtain ⟨m, rfl⟩ : ∃ m, gk = m + 1 := by
      cases gk with
      | zero => have := HA.out; simp [appM] at this
      | succ m => exact ⟨m, rfl⟩
    by_cases hP : (isM l { data := #[110, 97, 109, 101] } kq bq || isM l { data := #[110, 117, 109] } kq bq || isM l { data := #[40] } kq bq) = true
    · have hq := HA.out
      simp only [appM, hP, if_true] at hq
      obtain ⟨⟨z, kz, bz⟩, hz1, hz2⟩ := Option.bind_eq_some_iff.1 hq
      have HZ1 : Hid _ := hz1
      have HZ2 : Hid _ := hz2
      have HP : Hid _ := hP
      clear hq hz1 hz2 HA hP
      have cd : ∀ q, (wr.drewN q).cell? ⟨b, 3, none⟩ = some (.int .i64 y.loc) := fun q => hyr.c3.1
      go_wp2_with fail
      refine (is_any wr rb tb c l kq bq _ hRr hkq hl).mono ?_
      rintro e w4 ⟨rfl, q4, rfl⟩
      cases p1 : isM l { data := #[110, 97, 109, 101] } kq bq
      · go_wp2_with fail
        refine (is_any _ rb tb c l kq bq _ (hRr.drewN q4) hkq hl).mono ?_
        rintro e w5 ⟨rfl, q5, rfl⟩
        cases p2 : isM l { data := #[110, 117, 109] } kq bq
        · go_wp2_with fail
          refine (is_any _ rb tb c l kq bq _ (hRr.drewN (q4 + q5)) hkq hl).mono ?_
          rintro e w6 ⟨rfl, q6, rfl⟩
          have p3 : isM l { data := #[40] } kq bq = true := by have := HP.out; rw [p1, p2] at this; simpa using this
          rw [p3]
          clear p1 p2 p3
          go_wp2_with fail
          generalize hqq : q4 + q5 + q6 = qq at *
          clear hqq
          have hRq := hRr.drewN qq
          have hKq := hKr.drewN qq
          have hyq : Rep (wr.drewN qq) y (.pointer (some ⟨b, 0, none⟩)) fs := Rep.same y hyr (fun _ _ => rfl)
          have cdd := cd qq
          generalize wr.drewN qq = wd at *
          clear cd hRr hKr hyr
          have hbl := hyl b hyq.c3.2
          have hnb : ¬ (fun q => q = rb) b := by show ¬ b = rb; omega
          have hbd : b < wd.heap.size := World.block_lt_of_cell? _ _ cdd
          go_region_with (go_at_call 78; refine (hAt m (by omega) _ rb tb c kq bq z kz bz ?_ hkq HZ1.out).mono ?_; exact hRq.drew; rintro e w8 ⟨zb, zf, rfl, hzr, hzl, g8, r8, hk8⟩; have u3 := g8.cell (p := ⟨b, 3, none⟩) cdd hnb; have u4 : b < w8.heap.size := Nat.lt_of_lt_of_le hbd g8.size)
          all_goals
            go_wp2
            go_roundg m
            case measure => omega
            case rel =>
              have hyr8 := Rep.same y hyq (w' := w8) (fun q hq => g8.block q (Rep.lt y hyq q hq) (fun e => by have := hyl q hq; have h9 : q = rb := e; omega))
              have h78 := g8.size
              have h07 := hKq.size
              have hK8 : Kp (· = rb) w w8 := hKq.drew.trans g8
              have h7d : wd.drew.heap.size = wd.heap.size := rfl
              refine ⟨.mk { data := #[97, 112, 112] } [] [y, z] y.loc, w8.heap.size + 1, (w8.heap.size + 1) :: w8.heap.size :: (fs ++ zf), kz, bz, rfl, node_rep { data := #[97, 112, 112] } y.loc hyr8 hzr, ?_, (hK8.alloc _).alloc _, (r8.alloc _).alloc _, hk8, HZ2.out, by omega⟩
              intro q hq
              simp only [List.mem_cons, List.mem_append] at hq
              rcases hq with rfl | rfl | hq | hq
              · omega
              · omega
              · exact hyl q hq
              · have := hzl q hq; omega
        · clear p1 p2
          go_wp2_with fail
          generalize hqq : q4 + q5 = qq at *
          clear hqq
          have hRq := hRr.drewN qq
          have hKq := hKr.drewN qq
          have hyq : Rep (wr.drewN qq) y (.pointer (some ⟨b, 0, none⟩)) fs := Rep.same y hyr (fun _ _ => rfl)
          have cdd := cd qq
          generalize wr.drewN qq = wd at *
          clear cd hRr hKr hyr
          have hbl := hyl b hyq.c3.2
          have hnb : ¬ (fun q => q = rb) b := by show ¬ b = rb; omega
          have hbd : b < wd.heap.size := World.block_lt_of_cell? _ _ cdd
          go_region_with (go_at_call 78; refine (hAt m (by omega) _ rb tb c kq bq z kz bz ?_ hkq HZ1.out).mono ?_; exact hRq.drew; rintro e w8 ⟨zb, zf, rfl, hzr, hzl, g8, r8, hk8⟩; have u3 := g8.cell (p := ⟨b, 3, none⟩) cdd hnb; have u4 : b < w8.heap.size := Nat.lt_of_lt_of_le hbd g8.size)
          all_goals
            go_wp2
            go_roundg m
            case measure => omega
            case rel =>
              have hyr8 := Rep.same y hyq (w' := w8) (fun q hq => g8.block q (Rep.lt y hyq q hq) (fun e => by have := hyl q hq; have h9 : q = rb := e; omega))
              have h78 := g8.size
              have h07 := hKq.size
              have hK8 : Kp (· = rb) w w8 := hKq.drew.trans g8
              have h7d : wd.drew.heap.size = wd.heap.size := rfl
              refine ⟨.mk { data := #[97, 112, 112] } [] [y, z] y.loc, w8.heap.size + 1, (w8.heap.size + 1) :: w8.heap.size :: (fs ++ zf), kz, bz, rfl, node_rep { data := #[97, 112, 112] } y.loc hyr8 hzr, ?_, (hK8.alloc _).alloc _, (r8.alloc _).alloc _, hk8, HZ2.out, by omega⟩
              intro q hq
              simp only [List.mem_cons, List.mem_append] at hq
              rcases hq with rfl | rfl | hq | hq
              · omega
              · omega
              · exact hyl q hq
              · have := hzl q hq; omega
      · clear p1
        go_wp2_with fail
        obtain ⟨qq, rfl⟩ : ∃ qq, qq = q4 := ⟨_, rfl⟩
        have hRq := hRr.drewN qq
        have hKq := hKr.drewN qq
        have hyq : Rep (wr.drewN qq) y (.pointer (some ⟨b, 0, none⟩)) fs := Rep.same y hyr (fun _ _ => rfl)
        have cdd := cd qq
        generalize wr.drewN qq = wd at *
        clear cd hRr hKr hyr
        have hbl := hyl b hyq.c3.2
        have hnb : ¬ (fun q => q = rb) b := by show ¬ b = rb; omega
        have hbd : b < wd.heap.size := World.block_lt_of_cell? _ _ cdd
        go_region_with (go_at_call 78; refine (hAt m (by omega) _ rb tb c kq bq z kz bz ?_ hkq HZ1.out).mono ?_; exact hRq.drew; rintro e w8 ⟨zb, zf, rfl, hzr, hzl, g8, r8, hk8⟩; have u3 := g8.cell (p := ⟨b, 3, none⟩) cdd hnb; have u4 : b < w8.heap.size := Nat.lt_of_lt_of_le hbd g8.size)
        all_goals
          go_wp2
          go_roundg m
          case measure => omega
          case rel =>
            have hyr8 := Rep.same y hyq (w' := w8) (fun q hq => g8.block q (Rep.lt y hyq q hq) (fun e => by have := hyl q hq; have h9 : q = rb := e; omega))
            have h78 := g8.size
            have h07 := hKq.size
            have hK8 : Kp (· = rb) w w8 := hKq.drew.trans g8
            have h7d : wd.drew.heap.size = wd.heap.size := rfl
            refine ⟨.mk { data := #[97, 112, 112] } [] [y, z] y.loc, w8.heap.size + 1, (w8.heap.size + 1) :: w8.heap.size :: (fs ++ zf), kz, bz, rfl, node_rep { data := #[97, 112, 112] } y.loc hyr8 hzr, ?_, (hK8.alloc _).alloc _, (r8.alloc _).alloc _, hk8, HZ2.out, by omega⟩
            intro q hq
            simp only [List.mem_cons, List.mem_append] at hq
            rcases hq with rfl | rfl | hq | hq
            · omega
            · omega
            · exact hyl q hq
            · have := hzl q hq; omega
    · have hPf : (isM l { data := #[110, 97, 109, 101] } kq bq || isM l { data := #[110, 117, 109] } kq bq || isM l { data := #[40] } kq bq) = false := by simpa using hP
      have hq := HA.out
      simp only [appM, hPf, if_false, Bool.false_eq_true, Option.some.injEq, Prod.mk.injEq] at hq
      obtain ⟨rfl, rfl, rfl⟩ := hq
      clear HA hP
      simp only [Bool.or_eq_false_iff] at hPf
      obtain ⟨⟨p1, p2⟩, p3⟩ := hPf
      go_wp2_with fail
      refine (is_any wr rb tb c l kq bq _ hRr hkq hl).mono ?_
      rintro e w4 ⟨rfl, q4, rfl⟩
      rw [p1]
      go_wp2_with fail
      refine (is_any _ rb tb c l kq bq _ (hRr.drewN q4) hkq hl).mono ?_
      rintro e w5 ⟨rfl, q5, rfl⟩
      rw [p2]
      go_wp2_with fail
      refine (is_any _ rb tb c l kq bq _ (hRr.drewN (q4 + q5)) hkq hl).mono ?_
      rintro e w6 ⟨rfl, q6, rfl⟩
      rw [p3]
      clear p1 p2 p3
      go_wp2
      go_ret
      exact ⟨b, fs, rfl, Rep.same y hyr (fun _ _ => rfl), hyl, hKr.drewN _, hRr.drewN _, hkq⟩
end Go.Proofs.YtleenphlgbklmaaGreatDoor
