import Derived.Test.YtnhmjndjclpnlaaGreatDoorQGrow
import Derived.Deep.RegionWith
set_option linter.unusedVariables false
set_option linter.unusedSimpArgs false
namespace Go.Proofs.YtnhmjndjclpnlaaGreatDoor
open Go.RowKit

set_option maxHeartbeats 1000000 in
theorem is_any (w : World) (rb tb c : Nat) (l : List Tk) (k : Nat) (bad : Int) (s : ByteArray) (h : Rd w rb tb c l k bad) (hk : k < l.length) (hl : l.length ≤ 1000) :
    Calls Tryz.prog 70 #[.pointer (some ⟨rb, 0, none⟩), .string s] w fun e w' => e = .returned (.bool (isM l s k bad)) ∧ ∃ n, w' = w.drewN n := by
  have h0 := h.c0
  have h1 := h.c1
  have h2 := h.c2
  have h3 := (h.tk k hk).1
  clear h
  by_cases hb : bad < 0
  · have e1 : isM l s k bad = ((tkAt l k).is.toList == s.toList) := by simp [isM, hb, ByteArray.toList_eq]
    rw [e1]
    generalize (tkAt l k).is = q at *
    clear e1
    go_enter Tryz.func70, Tryz.ntmps70
    go_wp2
    go_quiet (fail)
    go_wp2
    go_ret
    exact ⟨rfl, _, rfl⟩
  · have e1 : isM l s k bad = false := by simp [isM, hb]
    rw [e1]
    have hd : decide (bad < 0) = false := by simpa using hb
    clear e1 h3
    go_enter Tryz.func70, Tryz.ntmps70
    go_wp2
    go_quiet (fail)
    go_wp2
    go_ret
    exact ⟨rfl, _, rfl⟩
end Go.Proofs.YtnhmjndjclpnlaaGreatDoor

namespace Go.Proofs.YtnhmjndjclpnlaaGreatDoor
open Go.RowKit

set_option maxHeartbeats 1000000 in
theorem take_any (w : World) (rb tb c : Nat) (l : List Tk) (k : Nat) (bad : Int) (s : ByteArray) (h : Rd w rb tb c l k bad) (hk : k < l.length) (hl : l.length ≤ 1000) :
    Calls Tryz.prog 67 #[.pointer (some ⟨rb, 0, none⟩), .string s] w fun e w' => e = .returned (.bool (isM l s k bad)) ∧ Kp (· = rb) w w' ∧ Rd w' rb tb c l (takeK l s k bad) bad := by
  cases hM : isM l s k bad
  · have eK : takeK l s k bad = k := by simp [takeK, hM]
    rw [eK]
    go_enter Tryz.func67, Tryz.ntmps67
    go_wp2_with fail
    refine (is_any w rb tb c l k bad s h hk hl).mono ?_
    rintro e w' ⟨rfl, n, rfl⟩
    rw [hM]
    go_wp2
    go_ret
    exact ⟨rfl, (Kp.refl _ _).drewN n, h.drewN n⟩
  · have eK : takeK l s k bad = k + 1 := by simp [takeK, hM]
    rw [eK]
    go_enter Tryz.func67, Tryz.ntmps67
    go_wp2_with fail
    refine (is_any w rb tb c l k bad s h hk hl).mono ?_
    rintro e w' ⟨rfl, n, rfl⟩
    rw [hM]
    have h2 := h.drewN n
    have h3 : Kp (· = rb) w (w.drewN n) := (Kp.refl _ _).drewN n
    generalize w.drewN n = w1 at *
    have c1 := h2.c1
    have c2 := h2.fz 1
    go_wp2
    go_ret
    exact ⟨rfl, h3.setCell _ _ (fun _ => rfl), h2.setK (k + 1)⟩

set_option maxHeartbeats 1000000 in
theorem need_any (w : World) (rb tb c : Nat) (l : List Tk) (k : Nat) (bad : Int) (s : ByteArray) (h : Rd w rb tb c l k bad) (hk : k < l.length) (hl : l.length ≤ 1000) :
    Calls Tryz.prog 36 #[.pointer (some ⟨rb, 0, none⟩), .string s] w fun e w' => e = .returned (.string (tkAt l k).s) ∧ Kp (· = rb) w w' ∧ Rd w' rb tb c l (takeK l s k bad) (needB l s k bad) := by
  have h0 := h.c0
  have h1 := h.c1
  have h2 := h.c2
  obtain ⟨t0, t1, t2⟩ := h.tk k hk
  have hrb := h.lt
  have htb : tb < w.heap.size := World.block_lt_of_cell? _ _ t0
  go_enter Tryz.func36, Tryz.ntmps36
  go_wp2
  go_region
  have hR := (h.alloc (.cells #[.string (tkAt l k).is, .string (tkAt l k).s, .int .i64 (tkAt l k).loc] 135)).drew
  have hK : Kp (· = rb) w (w.alloc (.cells #[.string (tkAt l k).is, .string (tkAt l k).s, .int .i64 (tkAt l k).loc] 135)).drew := ((Kp.refl _ _).alloc _).drew
  have hT : (w.alloc (.cells #[.string (tkAt l k).is, .string (tkAt l k).s, .int .i64 (tkAt l k).loc] 135)).drew.heap[w.heap.size]? = some (.cells #[.string (tkAt l k).is, .string (tkAt l k).s, .int .i64 (tkAt l k).loc] 135 (0, 0)) := heap_alloc_new _ _
  have hne : w.heap.size ≠ rb := by omega
  go_wp2_with fail
  generalize (w.alloc (.cells #[.string (tkAt l k).is, .string (tkAt l k).s, .int .i64 (tkAt l k).loc] 135)).drew = w1 at *
  clear h h0 h1 h2 t0 t1 t2
  generalize w.heap.size = tq at *
  refine (take_any w1 rb tb c l k bad s hR hk hl).mono ?_
  rintro e w2 ⟨rfl, g2, r2⟩
  have hT2 := g2.blk hT hne
  have u0 : w2.cell? ⟨tq, 1, none⟩ = some (.string (tkAt l k).s) := by simp [World.cell?, hT2]
  have u1 : w2.cell? ⟨tq, 2, none⟩ = some (.int .i64 (tkAt l k).loc) := by simp [World.cell?, hT2]
  have r2c := r2.c2
  have hKK := hK.trans g2
  clear hT hT2 hR hK g2
  by_cases hM : isM l s k bad = true
  · have eB : Hid (needB l s k bad = bad) := by simp [Hid, needB, hM]
    rw [hM]
    clear hM
    go_wp2
    go_ret
    exact ⟨rfl, hKK, by rw [eB.out]; exact r2⟩
  · have hM' : isM l s k bad = false := by simpa using hM
    have fz := r2.fz 2
    by_cases hb : bad < 0
    · have eB : Hid (needB l s k bad = (tkAt l k).loc) := by simp [Hid, needB, hM', hb]
      have r3 := r2.setB (tkAt l k).loc
      have k3 := hKK.setCell ⟨rb, 2, none⟩ (.int .i64 (tkAt l k).loc) (fun _ => rfl)
      have u0' : (w2.setCell ⟨rb, 2, none⟩ (.int .i64 (tkAt l k).loc)).cell? ⟨tq, 1, none⟩ = some (.string (tkAt l k).s) := by
        rw [World.cell?_setCell_other _ _ _ _ (fun e => hne (by injection e with e1; exact e1.symm))]; exact u0
      rw [hM']
      clear hM hM'
      go_wp2
      go_ret
      exact ⟨rfl, k3, by rw [eB.out]; exact r3⟩
    · have eB : Hid (needB l s k bad = bad) := by simp [Hid, needB, hb]
      have hd : decide (bad < 0) = false := by simpa using hb
      rw [hM']
      clear hM hM'
      go_wp2
      go_ret
      exact ⟨rfl, hKK, by rw [eB.out]; exact r2⟩
end Go.Proofs.YtnhmjndjclpnlaaGreatDoor
