import Derived.Test.YtnhmjndjclpnlaaGreatDoorRPTWA
import Derived.Test.YtnhmjndjclpnlaaGreatDoorRPKnown
set_option linter.unusedVariables false
set_option linter.unusedSimpArgs false
namespace Go.Proofs.YtnhmjndjclpnlaaGreatDoor
open Go.RowKit

theorem TW.kept {w w' : World} {B b nb mb : Nat} {vb l : List Nat} {bs : List Value} (h : TW w B b nb mb vb l bs) (hl : ∀ n, n ∈ l → n < vb.length) (k : Kp (fun _ => False) w w') : TW w' B b nb mb vb l bs := h.write (k.mono (fun _ _ hq => hq.elim)) hl (h.bw.kp k (fun _ hq => hq.elim))
set_option maxRecDepth 20000 in
set_option maxHeartbeats 1000000 in
theorem tw_base {w : World} {B b nb mb : Nat} {vb l : List Nat} {bs : List Value} (h : TW w B b nb mb vb l bs) (hl : ∀ n, n ∈ l → n < vb.length) (s : ByteArray) (hn : bs.length + s.size ≤ 1000000000) :
    Calls Tryz.prog 102 #[.pointer (some ⟨b, 0, none⟩), .iface 286 (.agg #[.string s])] w fun e w' => e = .returned (.tuple #[]) ∧ TW w' B b nb mb vb l (bs ++ Lib.strCells s) ∧ Kp (TS B mb) w w' := by
  have HKn : Hid _ := known_base (.string s) w
  go_enter Tryz.func102, Tryz.ntmps102
  go_wp2_with fail
  refine Calls.mono HKn.out ?_
  rintro e wk ⟨rfl, hkk⟩
  have h := h.kept hl hkk
  have hK : Kp (TS B mb) w (wk.alloc (.cells #[.string s] 286)).drew := ((hkk.mono (fun _ _ z => z.elim)).alloc _).drew
  have h1 := h.kept hl (((Kp.refl _ wk).alloc (.cells #[.string s] 286)).drew)
  have HW : Hid _ := h1.bwrite hl s hn
  have hta := Tryz.taBB (.string s) wk
  have hnb : ∃ x, wk.cell? ⟨b, 0, none⟩ = some x := by
    obtain ⟨_, p, v, _, hb, _, _⟩ := h.bw
    exact ⟨p, by simp [World.cell?, hb]⟩
  clear h h1 HKn hkk
  go_wp2_with fail
  go_region_with (go_at_call 136; refine Calls.mono HW.out ?_; rintro e w' ⟨rfl, hT, hk⟩)
  go_wp2
  go_end0
  exact ⟨rfl, hT, hK.trans hk⟩
theorem idx_some {l : List Nat} {n j : Nat} (h : l.findIdx? (fun x => n == x) = some j) : l[j]? = some n := by
  obtain ⟨hj, e, _⟩ := List.findIdx?_eq_some_iff_getElem.1 h
  rw [List.getElem?_eq_getElem hj]
  have := beq_iff_eq.1 e
  rw [← this]
theorem idx_none {l : List Nat} {n : Nat} (h : l.findIdx? (fun x => n == x) = none) : ¬ n ∈ l := by
  intro hm
  have := (List.findIdx?_eq_none_iff.1 h) n hm
  simp at this
theorem tw_num {w : World} {B b nb mb : Nat} {vb l : List Nat} {bs : List Value} (h : TW w B b nb mb vb l bs) (hl : ∀ n, n ∈ l → n < vb.length) (n : Nat) (hn : n < vb.length) (h260 : (varsM (.mk { data := #[] } n []) l).length ≤ 260) :
    Calls Tryz.prog 103 #[.pointer (some ⟨vb.getD n 0, 0, none⟩), .pointer (some ⟨nb, 0, none⟩)] w fun e w' => ∃ j, e = .returned (.string (letM j)) ∧ TW w' B b nb mb vb (varsM (.mk { data := #[] } n []) l) bs ∧ Kp (TS B mb) w w' ∧ (varsM (.mk { data := #[] } n []) l)[j]? = some n := by
  have gd : ∀ x, x < vb.length → vb.getD x 0 ∈ vb := fun x hx => by simp [List.getD, hx]
  have hinj : ∀ x, x ∈ l → vb.getD n 0 = vb.getD x 0 → n = x := fun x hx e => by
    have hxl := hl x hx
    have e1 : vb.getD n 0 = vb[n] := by simp [List.getD, hn]
    have e2 : vb.getD x 0 = vb[x] := by simp [List.getD, hxl]
    rw [e1, e2] at e
    have hp := List.pairwise_iff_getElem.1 h.inj
    rcases Nat.lt_trichotomy n x with q | q | q
    · exact (hp n x hn hxl q e).elim
    · exact q
    · exact (hp x n hxl hn q e.symm).elim
  have hV := (h.vbs _ (gd n hn)).1
  have hc0 : w.cell? ⟨nb, 0, none⟩ = some (.map (some mb)) := by simp [World.cell?, h.nbc]
  have hi := idx_map (fun n => vb.getD n 0) n l hinj
  rw [varsM_leaf] at h260 ⊢
  cases hj : l.findIdx? (fun x => n == x) with
  | some j =>
    have hjs := idx_some hj
    have hin : inB l n = true := List.contains_iff_mem.2 (List.mem_of_getElem? hjs)
    have hjl := (List.getElem?_eq_some_iff.1 hjs).1
    rw [hin] at h260 ⊢
    simp only [if_true] at h260 ⊢
    refine (pnum_old w nb mb _ _ hc0 h.nm hV j (hi.trans hj) (by omega)).mono ?_
    rintro e w' ⟨rfl, hww⟩
    subst hww
    exact ⟨j, rfl, h, Kp.refl _ _, hjs⟩
  | none =>
    have hin : inB l n = false := by
      rw [Bool.eq_false_iff]
      exact fun z => idx_none hj (List.contains_iff_mem.1 z)
    rw [hin] at h260 ⊢
    simp only [Bool.false_eq_true, if_false] at h260 ⊢
    simp at h260
    refine (pnum_new w nb mb _ _ hc0 h.nm hV (hi.trans hj) (by simp; omega)).mono ?_
    rintro e w' ⟨rfl, hN, hk⟩
    have hmp := h.nm.mp
    refine ⟨l.length, by simp, ⟨h.bw.kp hk (fun q hq => by rw [hq]; exact h.mbB), hk.blk h.nbc (fun z => ?_), h.nbB, h.mbB, ?_, ?_, h.inj⟩, hk.mono (fun q _ hq => .inr hq), by simp⟩
    · have a := h.nbc
      rw [z, hmp] at a
      cases a
    · rw [List.map_append]
      exact hN
    · intro c hc
      obtain ⟨hb, hB⟩ := h.vbs c hc
      refine ⟨hb.kp hk (fun z => ?_), hB⟩
      obtain ⟨s, hs⟩ := hb
      rw [z, hmp] at hs
      cases hs
set_option maxRecDepth 20000 in
set_option maxHeartbeats 1000000 in
theorem tw_var {w : World} {B b nb mb : Nat} {vb l : List Nat} {bs : List Value} (h : TW w B b nb mb vb l bs) (hl : ∀ n, n ∈ l → n < vb.length) (n : Nat) (hn : n < vb.length) (h260 : (varsM (.mk { data := #[] } n []) l).length ≤ 260) (hlen : bs.length + 1000 ≤ 1000000000) :
    Calls Tryz.prog 102 #[.pointer (some ⟨b, 0, none⟩), .iface 200 (.pointer (some ⟨vb.getD n 0, 0, none⟩))] w fun e w' => ∃ j, e = .returned (.tuple #[]) ∧ TW w' B b nb mb vb (varsM (.mk { data := #[] } n []) l) (bs ++ Lib.strCells (letM j)) ∧ Kp (TS B mb) w w' ∧ (varsM (.mk { data := #[] } n []) l)[j]? = some n := by
  have hl2 : ∀ x, x ∈ varsM (.mk { data := #[] } n []) l → x < vb.length := fun x hx => by
    rw [varsM_leaf] at hx
    split at hx
    · exact hl x hx
    · simp at hx
      rcases hx with hx | rfl
      · exact hl x hx
      · exact hn
  have HKn : Hid _ := known_ptr 200 (vb.getD n 0) w (Tryz.fVar _ w) (h.vbs _ (by simp [List.getD, hn])).1.c0
  have hkd : Kp (fun _ => False) w w.drew := (Kp.refl _ w).drew
  have hK : Kp (TS B mb) w w.drew := (Kp.refl _ w).drew
  have HN : Hid _ := tw_num (h.kept hl hkd) hl n hn h260
  have HS : Hid (∀ (w' : World) (j : Nat), TW w' B b nb mb vb (varsM (.mk { data := #[] } n []) l) bs → Calls Tryz.prog 136 #[.pointer (some ⟨b, 0, none⟩), .string (letM j)] w' fun e w'' => e = .returned (.tuple #[.int .i64 (letM j).size, .nilIface]) ∧ TW w'' B b nb mb vb (varsM (.mk { data := #[] } n []) l) (bs ++ Lib.strCells (letM j)) ∧ Kp (TS B mb) w' w'') := fun w' j hT => hT.bwrite hl2 (letM j) (by have := letM_size j; omega)
  have t1 := Tryz.taVB (.pointer (some ⟨vb.getD n 0, 0, none⟩)) w
  have t2 := Tryz.taVV (.pointer (some ⟨vb.getD n 0, 0, none⟩)) w
  have c2 : w.cell? ⟨b, 2, none⟩ = some (.func (.func 103) #[] #[.pointer (some ⟨nb, 0, none⟩)]) := by
    obtain ⟨_, p, v, _, hb, _, _⟩ := h.bw
    simp [World.cell?, hb]
  clear h hl hl2 h260 hn
  generalize vb.getD n 0 = vbn at *
  go_enter Tryz.func102, Tryz.ntmps102
  go_wp2_with fail
  refine Calls.mono HKn.out ?_
  rintro e w' ⟨rfl, hww⟩
  rw [hww]
  clear hww w' HKn
  go_wp2_with fail
  go_region_with (first | (go_at_call 103; refine Calls.mono HN.out ?_; rintro e w2 ⟨j, rfl, hT, hk, hj⟩) | (go_at_call 136; refine Calls.mono (HS.out w2 j hT) ?_; rintro e w3 ⟨rfl, hT3, hk3⟩))
  go_wp2
  go_end0
  exact ⟨j, rfl, hT3, (hK.trans hk).trans hk3, hj⟩
end Go.Proofs.YtnhmjndjclpnlaaGreatDoor
