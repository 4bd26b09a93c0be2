import Derived.Test.YtleenphlgbklmaaGreatDoorTWTake
import Derived.Deep.DeepCutAuto
import Derived.Deep.LoopGhost
set_option linter.unusedVariables false
set_option linter.unusedSimpArgs false
namespace Go.Proofs.YtleenphlgbklmaaGreatDoor
open Go.RowKit

def SExp (l : List Tk) (n : Nat) : Prop := ∀ (w : World) (rb tb c k : Nat) (bad : Int) (x : X) (k' : Nat) (bad' : Int), Rd w rb tb c l k bad → k < l.length → expM l n k bad = some (x, k', bad') →
  Calls Tryz.prog 40 #[.pointer (some ⟨rb, 0, none⟩)] w fun e w' => ∃ b fs, e = .returned (.pointer (some ⟨b, 0, none⟩)) ∧ Rep w' x (.pointer (some ⟨b, 0, none⟩)) fs ∧ (∀ q, q ∈ fs → w.heap.size ≤ q) ∧ Kp (· = rb) w w' ∧ Rd w' rb tb c l k' bad' ∧ k' < l.length
def SAtom (l : List Tk) (n : Nat) : Prop := ∀ (w : World) (rb tb c k : Nat) (bad : Int) (x : X) (k' : Nat) (bad' : Int), Rd w rb tb c l k bad → k < l.length → atomM l n k bad = some (x, k', bad') →
  Calls Tryz.prog 78 #[.pointer (some ⟨rb, 0, none⟩)] w fun e w' => ∃ b fs, e = .returned (.pointer (some ⟨b, 0, none⟩)) ∧ Rep w' x (.pointer (some ⟨b, 0, none⟩)) fs ∧ (∀ q, q ∈ fs → w.heap.size ≤ q) ∧ Kp (· = rb) w w' ∧ Rd w' rb tb c l k' bad' ∧ k' < l.length

theorem leaf_rep (w : World) (is s : ByteArray) (loc : Nat) :
    Rep ((w.alloc (.cells #[.string s] 9)).alloc (.cells #[.string is, .slice (some ⟨w.heap.size, 0, none⟩) 1 1, .slice none 0 0, .int .i64 loc] 87)) (.mk is [s] [] loc) (.pointer (some ⟨w.heap.size + 1, 0, none⟩)) [w.heap.size + 1, w.heap.size] := by
  simp only [Rep, Reps]
  refine ⟨w.heap.size + 1, .slice (some ⟨w.heap.size, 0, none⟩) 1 1, .slice none 0 0, [], [], rfl, ?_, ?_, World.ownsRow_nil _ _ _ _, ⟨rfl, rfl⟩, rfl⟩
  · have := heap_alloc_new (w.alloc (.cells #[.string s] 9)) (.cells #[.string is, .slice (some ⟨w.heap.size, 0, none⟩) 1 1, .slice none 0 0, .int .i64 loc] 87)
    simpa using this
  · exact (World.ownsRow_lit (base := 0) (e := 9) (size := 1) w #[.string s] 1 (Nat.zero_le _) (by decide) rfl).alloc _

theorem node_rep {w : World} {x y : X} {p q : Value} {f1 f2 : List Nat} (op : ByteArray) (loc : Nat) (hx : Rep w x p f1) (hy : Rep w y q f2) :
    Rep ((w.alloc (.cells #[p, q] 26)).alloc (.cells #[.string op, .slice none 0 0, .slice (some ⟨w.heap.size, 0, none⟩) 2 2, .int .i64 loc] 87)) (.mk op [] [x, y] loc) (.pointer (some ⟨w.heap.size + 1, 0, none⟩)) ((w.heap.size + 1) :: w.heap.size :: (f1 ++ f2)) := by
  have up : ∀ b, b < w.heap.size → ((w.alloc (.cells #[p, q] 26)).alloc (.cells #[.string op, .slice none 0 0, .slice (some ⟨w.heap.size, 0, none⟩) 2 2, .int .i64 loc] 87)).heap[b]? = w.heap[b]? := fun b hb => by
    rw [Below.heap_alloc _ _ _ (by simp; omega), Below.heap_alloc _ _ _ hb]
  simp only [Rep, Reps]
  refine ⟨w.heap.size + 1, .slice none 0 0, .slice (some ⟨w.heap.size, 0, none⟩) 2 2, [p, q], f1 ++ f2, rfl, ?_, World.ownsRow_nil _ _ _ _, ?_, ?_, by simp [Value.ownBlock]⟩
  · have := heap_alloc_new (w.alloc (.cells #[p, q] 26)) (.cells #[.string op, .slice none 0 0, .slice (some ⟨w.heap.size, 0, none⟩) 2 2, .int .i64 loc] 87)
    simpa using this
  · exact (World.ownsRow_lit (base := 0) (e := 26) (size := 1) w #[p, q] 2 (Nat.zero_le _) (by decide) rfl).alloc _
  · exact ⟨p, [q], f1, f2, rfl, Rep.same x hx (fun b hb => up b (Rep.lt x hx b hb)), ⟨q, [], f2, [], rfl, Rep.same y hy (fun b hb => up b (Rep.lt y hy b hb)), ⟨rfl, rfl⟩, by simp⟩, rfl⟩

set_option maxHeartbeats 2000000 in
theorem atom_step (l : List Tk) (hl : l.length ≤ 1000) (hG : Good l) (n : Nat) (hE : SExp l n) : SAtom l (n + 1) := by
  intro w rb tb c k bad x k' bad' h hk hM
  have h0 := h.c0
  have h1 := h.c1
  obtain ⟨t0, t1, t2⟩ := h.tk k hk
  have hrb := h.lt
  have htb : tb < w.heap.size := World.block_lt_of_cell? _ _ t0
  have hR := (h.alloc (.cells #[.string (tkAt l k).is, .string (tkAt l k).s, .int .i64 (tkAt l k).loc] 151)).drew
  have hK : Kp (· = rb) w (w.alloc (.cells #[.string (tkAt l k).is, .string (tkAt l k).s, .int .i64 (tkAt l k).loc] 151)).drew := ((Kp.refl _ _).alloc _).drew
  have hT : (w.alloc (.cells #[.string (tkAt l k).is, .string (tkAt l k).s, .int .i64 (tkAt l k).loc] 151)).drew.heap[w.heap.size]? = some (.cells #[.string (tkAt l k).is, .string (tkAt l k).s, .int .i64 (tkAt l k).loc] 151 (0, 0)) := heap_alloc_new _ _
  have hne : w.heap.size ≠ rb := by omega
  have H : Hid (atomM l (n + 1) k bad = some (x, k', bad')) := hM
  clear hM
  go_enter Tryz.func78, Tryz.ntmps78
  go_wp2
  go_region
  go_wp2_with fail
  generalize (w.alloc (.cells #[.string (tkAt l k).is, .string (tkAt l k).s, .int .i64 (tkAt l k).loc] 151)).drew = w1 at *
  clear h h0 h1 t0 t1 t2
  obtain ⟨tq, htq⟩ : ∃ tq, tq = w.heap.size := ⟨_, rfl⟩
  rw [← htq] at hT hne ⊢
  have HTQ : Hid (tq = w.heap.size) := htq
  clear htq
  refine (take_any w1 rb tb c l k bad _ hR hk hl).mono ?_
  rintro e w2 ⟨rfl, g2, r2⟩
  have hT2 := g2.blk hT hne
  have hKK := hK.trans g2
  clear hT hR hK g2
  have u0 : w2.cell? ⟨tq, 0, none⟩ = some (.string (tkAt l k).is) := by simp [World.cell?, hT2]
  have u1 : w2.cell? ⟨tq, 1, none⟩ = some (.string (tkAt l k).s) := by simp [World.cell?, hT2]
  have u2 : w2.cell? ⟨tq, 2, none⟩ = some (.int .i64 (tkAt l k).loc) := by simp [World.cell?, hT2]
  have leaf : ∀ w3 : World, Kp (· = rb) w w3 → Rd w3 rb tb c l (k + 1) bad → (isM l { data := #[110, 97, 109, 101] } k bad || isM l { data := #[110, 117, 109] } k bad) = true → k + 1 < l.length → ∃ b fs, Ending.returned (.pointer (some ⟨w3.heap.size + 1, 0, none⟩)) = .returned (.pointer (some ⟨b, 0, none⟩)) ∧
      Rep ((w3.alloc (.cells #[.string (tkAt l k).s] 9)).alloc (.cells #[.string (tkAt l k).is, .slice (some ⟨w3.heap.size, 0, none⟩) 1 1, .slice none 0 0, .int .i64 (tkAt l k).loc] 87)) x (.pointer (some ⟨b, 0, none⟩)) fs ∧ (∀ q, q ∈ fs → w.heap.size ≤ q) ∧
      Kp (· = rb) w ((w3.alloc (.cells #[.string (tkAt l k).s] 9)).alloc (.cells #[.string (tkAt l k).is, .slice (some ⟨w3.heap.size, 0, none⟩) 1 1, .slice none 0 0, .int .i64 (tkAt l k).loc] 87)) ∧
      Rd ((w3.alloc (.cells #[.string (tkAt l k).s] 9)).alloc (.cells #[.string (tkAt l k).is, .slice (some ⟨w3.heap.size, 0, none⟩) 1 1, .slice none 0 0, .int .i64 (tkAt l k).loc] 87)) rb tb c l k' bad' ∧ k' < l.length := by
    intro w3 hk3 hr3 hor hlt
    have hq := H.out
    simp only [atomM, hor, if_true, Option.some.injEq, Prod.mk.injEq] at hq
    obtain ⟨rfl, rfl, rfl⟩ := hq
    have hs := hk3.size
    refine ⟨w3.heap.size + 1, [w3.heap.size + 1, w3.heap.size], rfl, leaf_rep w3 _ _ _, ?_, (hk3.alloc _).alloc _, (hr3.alloc _).alloc _, hlt⟩
    intro q hq
    simp at hq
    omega
  by_cases hA : isM l { data := #[110, 97, 109, 101] } k bad = true
  · have hlt := isM_lt hG hk hA (by decide) (by decide)
    have hr3 : Rd w2 rb tb c l (k + 1) bad := by have := r2; rw [takeK, if_pos hA] at this; exact this
    have L := leaf w2 hKK hr3 (by rw [hA]; rfl) hlt
    rw [hA]
    have htl : tq < w2.heap.size := lt_of_block hT2
    clear leaf r2 hr3 hKK hT2 hA hE
    go_wp2
    go_ret
    exact L
  · have hA' : isM l { data := #[110, 97, 109, 101] } k bad = false := by simpa using hA
    have r3 : Rd w2 rb tb c l k bad := by have := r2; rw [takeK, if_neg hA] at this; exact this
    rw [hA']
    go_wp2_with fail
    refine (take_any w2 rb tb c l k bad _ r3 hk hl).mono ?_
    rintro e w4 ⟨rfl, g4, r4⟩
    have hT4 := g4.blk hT2 hne
    have hK4 := hKK.trans g4
    clear u0 u1 u2 hT2 r3 r2 hKK g4
    have u0 : w4.cell? ⟨tq, 0, none⟩ = some (.string (tkAt l k).is) := by simp [World.cell?, hT4]
    have u1 : w4.cell? ⟨tq, 1, none⟩ = some (.string (tkAt l k).s) := by simp [World.cell?, hT4]
    have u2 : w4.cell? ⟨tq, 2, none⟩ = some (.int .i64 (tkAt l k).loc) := by simp [World.cell?, hT4]
    by_cases hB : isM l { data := #[110, 117, 109] } k bad = true
    · have hlt := isM_lt hG hk hB (by decide) (by decide)
      have hr3 : Rd w4 rb tb c l (k + 1) bad := by have := r4; rw [takeK, if_pos hB] at this; exact this
      have L := leaf w4 hK4 hr3 (by rw [hB]; simp) hlt
      rw [hB]
      have htl : tq < w4.heap.size := lt_of_block hT4
      clear leaf r4 hr3 hK4 hT4 hB hA hA' hE
      go_wp2
      go_ret
      exact L
    · have hB' : isM l { data := #[110, 117, 109] } k bad = false := by simpa using hB
      have r5 : Rd w4 rb tb c l k bad := by have := r4; rw [takeK, if_neg hB] at this; exact this
      clear leaf r4 u0 u1 u2
      rw [hB']
      have HQ : Hid ((expM l n (takeK l { data := #[40] } k bad) (needB l { data := #[40] } k bad)).bind (fun r =>
          if isM l { data := #[44] } r.2.1 r.2.2 then
            (expM l n (r.2.1 + 1) r.2.2).bind fun s =>
              some (X.mk { data := #[112, 97, 105, 114] } [] [r.1, s.1] (tkAt l k).loc, takeK l { data := #[41] } s.2.1 s.2.2, needB l { data := #[41] } s.2.1 s.2.2)
          else some (r.1, takeK l { data := #[41] } r.2.1 r.2.2, needB l { data := #[41] } r.2.1 r.2.2)) = some (x, k', bad')) := by
        have hq := H.out
        simp only [atomM, hA', hB', Bool.or_false, if_false, Bool.false_eq_true] at hq
        exact hq
      clear H hA hA' hB hB'
      have hko : takeK l { data := #[40] } k bad < l.length := takeK_lt hG hk (by decide) (by decide)
      go_wp2_with fail
      refine (need_any w4 rb tb c l k bad _ r5 hk hl).mono ?_
      rintro e w5 ⟨rfl, g5, r6⟩
      have hT5 := g5.blk hT4 hne
      have hK5 := hK4.trans g5
      clear hT4 hK4 g5 r5
      obtain ⟨⟨y, k1, b1⟩, hy, hq⟩ := Option.bind_eq_some_iff.1 HQ.out
      have HY : Hid _ := hq
      have HE : Hid _ := hy
      clear hy hq HQ
      go_wp2_with fail
      refine (hE w5 rb tb c _ _ y k1 b1 r6 hko HE.out).mono ?_
      rintro e w6 ⟨yb, yf, rfl, hyr, hyl, g6, r7, hk1⟩
      have hT6 := g6.blk hT5 hne
      have hK6 := hK5.trans g6
      have hl6 : w.heap.size ≤ w5.heap.size := hK5.size
      clear hT5 g6 r6
      go_wp2_with fail
      refine (take_any w6 rb tb c l k1 b1 _ r7 hk1 hl).mono ?_
      rintro e w7 ⟨rfl, g7, r8⟩
      have hT7 := g7.blk hT6 hne
      have hK7 := hK6.trans g7
      have hyr7 := Rep.same y hyr (fun b hb => g7.block b (Rep.lt y hyr b hb) (fun e => by have := hyl b hb; have h9 : b = rb := e; omega))
      by_cases hC : isM l { data := #[44] } k1 b1 = true
      · have r9 : Rd w7 rb tb c l (k1 + 1) b1 := by have := r8; rw [takeK, if_pos hC] at this; exact this
        have hk2 := isM_lt hG hk1 hC (by decide) (by decide)
        have hq := HY.out
        simp only [hC, if_true] at hq
        obtain ⟨⟨z, k2, b2⟩, hz, hq2⟩ := Option.bind_eq_some_iff.1 hq
        simp only [Option.some.injEq, Prod.mk.injEq] at hq2
        have HZ : Hid _ := hz
        have HQ2 : Hid _ := hq2
        clear hz hq2 hq HY
        rw [hC]
        clear hC
        have u2 : w7.cell? ⟨tq, 2, none⟩ = some (.int .i64 (tkAt l k).loc) := by simp [World.cell?, hT7]
        have htl : tq < w7.heap.size := lt_of_block hT7
        clear hT6 hK6 hyr r7 r8 g7
        go_wp2_with fail
        go_cut [4] (fun v wx => ∃ b fs, v = .pointer (some ⟨b, 0, none⟩) ∧ Rep wx (.mk { data := #[112, 97, 105, 114] } [] [y, z] (tkAt l k).loc) (.pointer (some ⟨b, 0, none⟩)) fs ∧ (∀ q, q ∈ fs → w.heap.size ≤ q) ∧ Kp (· = rb) w wx ∧ Rd wx rb tb c l k2 b2 ∧ k2 < l.length)
        case first =>
          go_region_with (go_at_call 40; refine (hE _ rb tb c _ _ z k2 b2 ?_ hk2 HZ.out).mono ?_; exact r9.drew; rintro e w8 ⟨zb, zf, rfl, hzr, hzl, g8, r10, hk3⟩; have u3 := g8.cell (p := ⟨tq, 2, none⟩) u2 hne; have htl8 : tq < w8.heap.size := Nat.lt_of_lt_of_le htl g8.size)
          all_goals
            go_wp2_with fail
            go_meet
            case rel =>
              have hyr8 := Rep.same y hyr7 (w' := w8) (fun b hb => g8.block b (Rep.lt y hyr7 b hb) (fun e => by have := hyl b hb; have h9 : b = rb := e; omega))
              have h78 := g8.size
              have h07 := hK7.size
              have hK8 : Kp (· = rb) w w8 := hK7.drew.trans g8
              have h7d : w7.drew.heap.size = w7.heap.size := rfl
              refine ⟨w8.heap.size + 1, (w8.heap.size + 1) :: w8.heap.size :: (yf ++ zf), rfl, node_rep { data := #[112, 97, 105, 114] } (tkAt l k).loc hyr8 hzr, ?_, (hK8.alloc _).alloc _, (r10.alloc _).alloc _, hk3⟩
              intro q hq
              simp only [List.mem_cons, List.mem_append] at hq
              rcases hq with rfl | rfl | hq | hq
              · omega
              · omega
              · have := hyl q hq; omega
              · have := hzl q hq; omega
        case rest =>
          obtain ⟨pb, pf, rfl, hpr, hpl, hKp, hRp, hk3⟩ := hcut
          have hk4 : takeK l { data := #[41] } k2 b2 < l.length := takeK_lt hG hk3 (by decide) (by decide)
          obtain ⟨e1, e2, e3⟩ := HQ2.out
          have E1 : Hid _ := e1
          have E2 : Hid _ := e2
          have E3 : Hid _ := e3
          clear e1 e2 e3 HQ2 HZ HE hE
          go_wp2_with fail
          refine (need_any wc rb tb c l k2 b2 _ hRp hk3 hl).mono ?_
          rintro e w9 ⟨rfl, g9, r11⟩
          have hpr9 := Rep.same _ hpr (w' := w9) (fun b hb => g9.block b (Rep.lt _ hpr b hb) (fun e => by have := hpl b hb; have h9 : b = rb := e; omega))
          clear hpr hRp hT7 hyr7
          go_wp2
          go_ret
          exact ⟨pb, pf, rfl, by rw [← E1.out]; exact hpr9, hpl, hKp.trans g9, by rw [← E2.out, ← E3.out]; exact r11, by rw [← E2.out]; exact hk4⟩
      · have hC' : isM l { data := #[44] } k1 b1 = false := by simpa using hC
        have r9 : Rd w7 rb tb c l k1 b1 := by have := r8; rw [takeK, if_neg hC] at this; exact this
        have hq := HY.out
        simp only [hC', if_false, Bool.false_eq_true, Option.some.injEq, Prod.mk.injEq] at hq
        have hk4 : takeK l { data := #[41] } k1 b1 < l.length := takeK_lt hG hk1 (by decide) (by decide)
        obtain ⟨e1, e2, e3⟩ := hq
        have E1 : Hid _ := e1
        have E2 : Hid _ := e2
        have E3 : Hid _ := e3
        clear e1 e2 e3 HY HE hE
        rw [hC']
        clear hC hC' hT6 hK6 hyr r7 r8 g7
        go_wp2_with fail
        refine (need_any w7 rb tb c l k1 b1 _ r9 hk1 hl).mono ?_
        rintro e w9 ⟨rfl, g9, r11⟩
        have hpr9 := Rep.same _ hyr7 (w' := w9) (fun b hb => g9.block b (Rep.lt _ hyr7 b hb) (fun e => by have := hyl b hb; have h9 : b = rb := e; omega))
        clear hyr7 r9 hT7
        go_wp2
        go_ret
        exact ⟨yb, yf, rfl, by rw [← E1.out]; exact hpr9, fun q hq => by have := hyl q hq; omega, hK7.trans g9, by rw [← E2.out, ← E3.out]; exact r11, by rw [← E2.out]; exact hk4⟩
end Go.Proofs.YtleenphlgbklmaaGreatDoor
