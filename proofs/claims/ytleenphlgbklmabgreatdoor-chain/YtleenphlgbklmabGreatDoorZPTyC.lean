import Derived.Test.YtleenphlgbklmabGreatDoorZPTyB
set_option linter.unusedVariables false
set_option linter.unusedSimpArgs false
namespace Go.Proofs.YtleenphlgbklmabGreatDoor
open Go.RowKit

set_option maxRecDepth 20000 in
set_option maxHeartbeats 2000000 in
theorem pone_int (s : ByteArray) (kws : List ByteArray) (L : List Tk) (hE : PEnv s kws L) (hki : { data := #[105, 110, 116] } ∈ kws) (hkb : { data := #[98, 111, 111, 108] } ∈ kws) (w : World) (rb mb k : Nat) (names : List ByteArray) (vb : List Nat) 
    (h : PAt w rb s L k) (hv : VM w mb names vb) (hok : NmOk L names) (hne : rb ≠ mb) (hM : isM L { data := #[105, 110, 116] } k (-1) = true) :
    Calls Tryz.prog 79 #[.agg #[.pointer (some ⟨rb, 0, none⟩), .map (some mb)]] w fun e w' => PRes w rb mb s L (.mk { data := #[105, 110, 116] } 0 []) names (k + 1) (-1) vb e w' := by
  obtain ⟨kd0, hrd, hT⟩ := h.ex
  have hG := hE.good
  have hrd' : w.heap[rb]? = some (.cells #[.string s, .int .i64 kd0, .int .i64 (tkAt L k).loc, .string (tkAt L k).s] 191 (0, 0)) := hrd
  have hka : Kept w (w.alloc (.cells #[.pointer (some ⟨rb, 0, none⟩), .map (some mb)] 116)) := Kept.alloc _ _
  have hkb2 : Kept (w.alloc (.cells #[.pointer (some ⟨rb, 0, none⟩), .map (some mb)] 116)) ((w.alloc (.cells #[.pointer (some ⟨rb, 0, none⟩), .map (some mb)] 116)).alloc (.cells #[.int .i64 kd0, .int .i64 (tkAt L k).loc, .string (tkAt L k).s] 189)) := Kept.alloc _ _
  have hK1 := hka.trans hkb2
  have hcv : (w.alloc (.cells #[.pointer (some ⟨rb, 0, none⟩), .map (some mb)] 116)).heap[w.heap.size]? = some (.cells #[.pointer (some ⟨rb, 0, none⟩), .map (some mb)] 116 (0, 0)) := heap_alloc_new _ _
  have hcv1 := hkb2.blk hcv
  have htk : ((w.alloc (.cells #[.pointer (some ⟨rb, 0, none⟩), .map (some mb)] 116)).alloc (.cells #[.int .i64 kd0, .int .i64 (tkAt L k).loc, .string (tkAt L k).s] 189)).heap[w.heap.size + 1]? = some (.cells #[.int .i64 kd0, .int .i64 (tkAt L k).loc, .string (tkAt L k).s] 189 (0, 0)) := by
    have := heap_alloc_new (w.alloc (.cells #[.pointer (some ⟨rb, 0, none⟩), .map (some mb)] 116)) (.cells #[.int .i64 kd0, .int .i64 (tkAt L k).loc, .string (tkAt L k).s] 189)
    simpa using this
  have h1 := h.kept hK1
  have hv1 := hv.kept hK1
  have hrd0 := hka.blk hrd'
  have hrl := h.ltq
  have hml := lt_of_block hv.mp
  have d1 : (w.alloc (.cells #[.pointer (some ⟨rb, 0, none⟩), .map (some mb)] 116)).cell? ⟨rb, 1, none⟩ = some (.int .i64 kd0) := by simp only [World.cell?, hrd0]; rfl
  have d2 : (w.alloc (.cells #[.pointer (some ⟨rb, 0, none⟩), .map (some mb)] 116)).cell? ⟨rb, 2, none⟩ = some (.int .i64 (tkAt L k).loc) := by simp only [World.cell?, hrd0]; rfl
  have d3 : (w.alloc (.cells #[.pointer (some ⟨rb, 0, none⟩), .map (some mb)] 116)).cell? ⟨rb, 3, none⟩ = some (.string (tkAt L k).s) := by simp only [World.cell?, hrd0]; rfl
  have HKd : Hid _ := hT
  clear h hv hrd hrd' hrd0 hT hcv
  generalize hw1 : (w.alloc (.cells #[.pointer (some ⟨rb, 0, none⟩), .map (some mb)] 116)).alloc (.cells #[.int .i64 kd0, .int .i64 (tkAt L k).loc, .string (tkAt L k).s] 189) = w1 at *
  have a0 : w1.cell? ⟨w.heap.size, 0, none⟩ = some (.pointer (some ⟨rb, 0, none⟩)) := by simp [World.cell?, hcv1]
  have a1 : w1.cell? ⟨w.heap.size, 1, none⟩ = some (.map (some mb)) := by simp [World.cell?, hcv1]
  have t0 : w1.cell? ⟨w.heap.size + 1, 0, none⟩ = some (.int .i64 kd0) := by simp [World.cell?, htk]
  have t1 : w1.cell? ⟨w.heap.size + 1, 1, none⟩ = some (.int .i64 (tkAt L k).loc) := by simp [World.cell?, htk]
  have t2 : w1.cell? ⟨w.heap.size + 1, 2, none⟩ = some (.string (tkAt L k).s) := by simp [World.cell?, htk]
  have hKw : Kq (fun q => q = rb ∨ q = mb) w w1 := Kq.of_kept hK1
  have HI : Hid _ := at_is hE h1 { data := #[105, 110, 116] } (.inl hki)
  have HB : Hid _ := at_is hE h1 { data := #[98, 111, 111, 108] } (.inl hkb)
  have hk1 := isM_lt hG h1.lt hM (by decide) (by decide)
  have htx : (tkAt L k).s = { data := #[105, 110, 116] } := by
    have e := at_text hE h1 { data := #[105, 110, 116] } (.inl hki)
    rw [hM, ByteArray.toList_eq, ByteArray.toList_eq] at e
    exact (sameS_iff _ _).1 e
  rw [htx] at t2 d3 hw1
  rw [hM] at HI
  by_cases hno : (tkAt L (k + 1)).is = { data := #[110, 111, 110, 101] }
  · have HA : Hid _ := at_advN hE h1 hk1 hno
    clear hM hcv1 htk htx
    go_enter Tryz.func79, Tryz.ntmps79
    go_wp2_with fail
    refine Calls.mono HI.out ?_
    rintro e w' ⟨rfl, hww⟩
    rw [hww]
    clear hww w'
    go_wp2_with fail
    refine Calls.mono HA.out ?_
    rintro e w3 ⟨b, he, hx1, hx2, hx3⟩
    rw [he]
    clear he
    go_wp2
    exact ⟨rfl, PRes.thr (Thr2.before (Thr2.of ⟨b, rfl, hx1, hx2, hx3⟩) hKw) (.inr ⟨by omega, hno, rfl⟩)⟩
  · have HA : Hid _ := at_adv hE h1 hk1 hno
    clear hM htx
    go_enter Tryz.func79, Tryz.ntmps79
    go_wp2_with fail
    refine Calls.mono HI.out ?_
    rintro e w' ⟨rfl, hww⟩
    rw [hww]
    clear hww w'
    go_wp2_with fail
    refine Calls.mono HA.out ?_
    rintro e w3 ⟨rfl, hK3, hP3⟩
    have htk3 := (hK3.block (w.heap.size + 1) (lt_of_block htk) (by show ¬ _; omega)).trans htk
    have t32 : w3.cell? ⟨w.heap.size + 1, 2, none⟩ = some (.string { data := #[105, 110, 116] }) := by have e := World.cell?_of_block (a := ⟨w.heap.size + 1, 2, none⟩) (hK3.block (w.heap.size + 1) (lt_of_block htk) (by show ¬ _; omega)); exact e.trans t2
    have hfin : PTyR w3 vb w.heap.size w3.heap.size (.mk { data := #[105, 110, 116] } 0 []) (.iface 271 (.agg #[.string { data := #[105, 110, 116] }])) := .base _ _ _ (Nat.le_trans hKw.size hK3.size) (.inl rfl)
    have hEF : PEnd w w3 rb mb s L (k + 1) names vb vb := ⟨hP3, hv1.rd h1 hK3 hne, ⟨[], by simp⟩, (PKeep.kept hK1).trans (PKeep.pat h1 hK3), hKw.trans (Kq.of_kp hK3 (fun q e => Or.inl e))⟩
    clear hK3 hP3 htk3 htk hcv1
    go_wp2
    go_ret
    exact PRes.ret (by omega) hfin hEF

set_option maxRecDepth 20000 in
set_option maxHeartbeats 2000000 in
theorem pone_bool (s : ByteArray) (kws : List ByteArray) (L : List Tk) (hE : PEnv s kws L) (hki : { data := #[105, 110, 116] } ∈ kws) (hkb : { data := #[98, 111, 111, 108] } ∈ kws) (w : World) (rb mb k : Nat) (names : List ByteArray) (vb : List Nat) 
    (h : PAt w rb s L k) (hv : VM w mb names vb) (hok : NmOk L names) (hne : rb ≠ mb) (hM0 : isM L { data := #[105, 110, 116] } k (-1) = false) (hM : isM L { data := #[98, 111, 111, 108] } k (-1) = true) :
    Calls Tryz.prog 79 #[.agg #[.pointer (some ⟨rb, 0, none⟩), .map (some mb)]] w fun e w' => PRes w rb mb s L (.mk { data := #[98, 111, 111, 108] } 0 []) names (k + 1) (-1) vb e w' := by
  obtain ⟨kd0, hrd, hT⟩ := h.ex
  have hG := hE.good
  have hrd' : w.heap[rb]? = some (.cells #[.string s, .int .i64 kd0, .int .i64 (tkAt L k).loc, .string (tkAt L k).s] 191 (0, 0)) := hrd
  have hka : Kept w (w.alloc (.cells #[.pointer (some ⟨rb, 0, none⟩), .map (some mb)] 116)) := Kept.alloc _ _
  have hkb2 : Kept (w.alloc (.cells #[.pointer (some ⟨rb, 0, none⟩), .map (some mb)] 116)) ((w.alloc (.cells #[.pointer (some ⟨rb, 0, none⟩), .map (some mb)] 116)).alloc (.cells #[.int .i64 kd0, .int .i64 (tkAt L k).loc, .string (tkAt L k).s] 189)) := Kept.alloc _ _
  have hK1 := hka.trans hkb2
  have hcv : (w.alloc (.cells #[.pointer (some ⟨rb, 0, none⟩), .map (some mb)] 116)).heap[w.heap.size]? = some (.cells #[.pointer (some ⟨rb, 0, none⟩), .map (some mb)] 116 (0, 0)) := heap_alloc_new _ _
  have hcv1 := hkb2.blk hcv
  have htk : ((w.alloc (.cells #[.pointer (some ⟨rb, 0, none⟩), .map (some mb)] 116)).alloc (.cells #[.int .i64 kd0, .int .i64 (tkAt L k).loc, .string (tkAt L k).s] 189)).heap[w.heap.size + 1]? = some (.cells #[.int .i64 kd0, .int .i64 (tkAt L k).loc, .string (tkAt L k).s] 189 (0, 0)) := by
    have := heap_alloc_new (w.alloc (.cells #[.pointer (some ⟨rb, 0, none⟩), .map (some mb)] 116)) (.cells #[.int .i64 kd0, .int .i64 (tkAt L k).loc, .string (tkAt L k).s] 189)
    simpa using this
  have h1 := h.kept hK1
  have hv1 := hv.kept hK1
  have hrd0 := hka.blk hrd'
  have hrl := h.ltq
  have hml := lt_of_block hv.mp
  have d1 : (w.alloc (.cells #[.pointer (some ⟨rb, 0, none⟩), .map (some mb)] 116)).cell? ⟨rb, 1, none⟩ = some (.int .i64 kd0) := by simp only [World.cell?, hrd0]; rfl
  have d2 : (w.alloc (.cells #[.pointer (some ⟨rb, 0, none⟩), .map (some mb)] 116)).cell? ⟨rb, 2, none⟩ = some (.int .i64 (tkAt L k).loc) := by simp only [World.cell?, hrd0]; rfl
  have d3 : (w.alloc (.cells #[.pointer (some ⟨rb, 0, none⟩), .map (some mb)] 116)).cell? ⟨rb, 3, none⟩ = some (.string (tkAt L k).s) := by simp only [World.cell?, hrd0]; rfl
  have HKd : Hid _ := hT
  clear h hv hrd hrd' hrd0 hT hcv
  generalize hw1 : (w.alloc (.cells #[.pointer (some ⟨rb, 0, none⟩), .map (some mb)] 116)).alloc (.cells #[.int .i64 kd0, .int .i64 (tkAt L k).loc, .string (tkAt L k).s] 189) = w1 at *
  have a0 : w1.cell? ⟨w.heap.size, 0, none⟩ = some (.pointer (some ⟨rb, 0, none⟩)) := by simp [World.cell?, hcv1]
  have a1 : w1.cell? ⟨w.heap.size, 1, none⟩ = some (.map (some mb)) := by simp [World.cell?, hcv1]
  have t0 : w1.cell? ⟨w.heap.size + 1, 0, none⟩ = some (.int .i64 kd0) := by simp [World.cell?, htk]
  have t1 : w1.cell? ⟨w.heap.size + 1, 1, none⟩ = some (.int .i64 (tkAt L k).loc) := by simp [World.cell?, htk]
  have t2 : w1.cell? ⟨w.heap.size + 1, 2, none⟩ = some (.string (tkAt L k).s) := by simp [World.cell?, htk]
  have hKw : Kq (fun q => q = rb ∨ q = mb) w w1 := Kq.of_kept hK1
  have HI : Hid _ := at_is hE h1 { data := #[105, 110, 116] } (.inl hki)
  have HB : Hid _ := at_is hE h1 { data := #[98, 111, 111, 108] } (.inl hkb)
  have hk1 := isM_lt hG h1.lt hM (by decide) (by decide)
  have htx : (tkAt L k).s = { data := #[98, 111, 111, 108] } := by
    have e := at_text hE h1 { data := #[98, 111, 111, 108] } (.inl hkb)
    rw [hM, ByteArray.toList_eq, ByteArray.toList_eq] at e
    exact (sameS_iff _ _).1 e
  rw [htx] at t2 d3 hw1
  rw [hM0] at HI
  rw [hM] at HB
  by_cases hno : (tkAt L (k + 1)).is = { data := #[110, 111, 110, 101] }
  · have HA : Hid _ := at_advN hE h1 hk1 hno
    clear hM hcv1 htk htx
    go_enter Tryz.func79, Tryz.ntmps79
    go_wp2_with fail
    refine Calls.mono HI.out ?_
    rintro e w' ⟨rfl, hww⟩
    rw [hww]
    clear hww w'
    go_wp2_with fail
    refine Calls.mono HB.out ?_
    rintro e w' ⟨rfl, hww⟩
    rw [hww]
    clear hww w'
    go_wp2_with fail
    refine Calls.mono HA.out ?_
    rintro e w3 ⟨b, he, hx1, hx2, hx3⟩
    rw [he]
    clear he
    go_wp2
    exact ⟨rfl, PRes.thr (Thr2.before (Thr2.of ⟨b, rfl, hx1, hx2, hx3⟩) hKw) (.inr ⟨by omega, hno, rfl⟩)⟩
  · have HA : Hid _ := at_adv hE h1 hk1 hno
    clear hM htx
    go_enter Tryz.func79, Tryz.ntmps79
    go_wp2_with fail
    refine Calls.mono HI.out ?_
    rintro e w' ⟨rfl, hww⟩
    rw [hww]
    clear hww w'
    go_wp2_with fail
    refine Calls.mono HB.out ?_
    rintro e w' ⟨rfl, hww⟩
    rw [hww]
    clear hww w'
    go_wp2_with fail
    refine Calls.mono HA.out ?_
    rintro e w3 ⟨rfl, hK3, hP3⟩
    have htk3 := (hK3.block (w.heap.size + 1) (lt_of_block htk) (by show ¬ _; omega)).trans htk
    have t32 : w3.cell? ⟨w.heap.size + 1, 2, none⟩ = some (.string { data := #[98, 111, 111, 108] }) := by have e := World.cell?_of_block (a := ⟨w.heap.size + 1, 2, none⟩) (hK3.block (w.heap.size + 1) (lt_of_block htk) (by show ¬ _; omega)); exact e.trans t2
    have hfin : PTyR w3 vb w.heap.size w3.heap.size (.mk { data := #[98, 111, 111, 108] } 0 []) (.iface 271 (.agg #[.string { data := #[98, 111, 111, 108] }])) := .base _ _ _ (Nat.le_trans hKw.size hK3.size) (.inr rfl)
    have hEF : PEnd w w3 rb mb s L (k + 1) names vb vb := ⟨hP3, hv1.rd h1 hK3 hne, ⟨[], by simp⟩, (PKeep.kept hK1).trans (PKeep.pat h1 hK3), hKw.trans (Kq.of_kp hK3 (fun q e => Or.inl e))⟩
    clear hK3 hP3 htk3 htk hcv1
    go_wp2
    go_ret
    exact PRes.ret (by omega) hfin hEF

theorem tk_one {s : ByteArray} {kws : List ByteArray} {L : List Tk} (hE : PEnv s kws L) {k kd0 : Nat} (hk : k < L.length) (hT : pTok s (tkAt L k).loc = some (kd0, (tkAt L k).s, (tkAt L k).loc + (tkAt L k).s.size)) : (kd0 = 1 → (tkAt L k).is = { data := #[110, 97, 109, 101] } ∨ kwIn kws (tkAt L k).s = true) ∧ ((tkAt L k).is = { data := #[110, 97, 109, 101] } → kd0 = 1) := by
  have l := (tk_link hE.kw hE.eq k hk).2
  cases l with
  | fin a b c d e =>
    rw [d] at hT
    simp only [Option.some.injEq, Prod.mk.injEq] at hT
    refine ⟨fun q => by omega, fun q => ?_⟩
    rw [b] at q
    exact absurd q (ne_of_list (by decide))
  | bad a b => rw [b] at hT; cases hT
  | word a b c d =>
    rw [c] at hT
    simp only [Option.some.injEq, Prod.mk.injEq] at hT
    refine ⟨fun _ => ?_, fun _ => hT.1.symm⟩
    rw [d]
    by_cases q : kwIn kws (tkAt L k).s = true
    · exact .inr q
    · rw [if_neg q]; exact .inl rfl
  | num a b c d e =>
    rw [d] at hT
    simp only [Option.some.injEq, Prod.mk.injEq] at hT
    refine ⟨fun q => by omega, fun q => ?_⟩
    rw [e] at q
    exact absurd q (ne_of_list (by decide))
  | sign a b c d e f =>
    rw [d] at hT
    simp only [Option.some.injEq, Prod.mk.injEq] at hT
    refine ⟨fun q => by omega, fun q => ?_⟩
    rw [e] at q
    rcases f with f | ⟨_, f, _⟩
    · rw [f] at q; exact absurd q (ne_of_list (by decide))
    · rw [f] at q
      have q := congrArg (fun x => x.size) q
      have q : (1 : Nat) = 4 := q
      omega

set_option maxRecDepth 20000 in
set_option maxHeartbeats 2000000 in
theorem pone_name (s : ByteArray) (kws : List ByteArray) (L : List Tk) (hE : PEnv s kws L) (hki : { data := #[105, 110, 116] } ∈ kws) (hkb : { data := #[98, 111, 111, 108] } ∈ kws) (w : World) (rb mb k : Nat) (names : List ByteArray) (vb : List Nat) 
    (h : PAt w rb s L k) (hv : VM w mb names vb) (hok : NmOk L names) (hne : rb ≠ mb) (hM0 : isM L { data := #[105, 110, 116] } k (-1) = false) (hM1 : isM L { data := #[98, 111, 111, 108] } k (-1) = false) (hM : isM L { data := #[110, 97, 109, 101] } k (-1) = true) :
    Calls Tryz.prog 79 #[.agg #[.pointer (some ⟨rb, 0, none⟩), .map (some mb)]] w fun e w' => PRes w rb mb s L (nameM names (tkAt L k).s).1 (nameM names (tkAt L k).s).2 (k + 1) (-1) vb e w' := by
  obtain ⟨kd0, hrd, hT⟩ := h.ex
  have hG := hE.good
  have hrd' : w.heap[rb]? = some (.cells #[.string s, .int .i64 kd0, .int .i64 (tkAt L k).loc, .string (tkAt L k).s] 191 (0, 0)) := hrd
  have hka : Kept w (w.alloc (.cells #[.pointer (some ⟨rb, 0, none⟩), .map (some mb)] 116)) := Kept.alloc _ _
  have hkb2 : Kept (w.alloc (.cells #[.pointer (some ⟨rb, 0, none⟩), .map (some mb)] 116)) ((w.alloc (.cells #[.pointer (some ⟨rb, 0, none⟩), .map (some mb)] 116)).alloc (.cells #[.int .i64 kd0, .int .i64 (tkAt L k).loc, .string (tkAt L k).s] 189)) := Kept.alloc _ _
  have hK1 := hka.trans hkb2
  have hcv : (w.alloc (.cells #[.pointer (some ⟨rb, 0, none⟩), .map (some mb)] 116)).heap[w.heap.size]? = some (.cells #[.pointer (some ⟨rb, 0, none⟩), .map (some mb)] 116 (0, 0)) := heap_alloc_new _ _
  have hcv1 := hkb2.blk hcv
  have htk : ((w.alloc (.cells #[.pointer (some ⟨rb, 0, none⟩), .map (some mb)] 116)).alloc (.cells #[.int .i64 kd0, .int .i64 (tkAt L k).loc, .string (tkAt L k).s] 189)).heap[w.heap.size + 1]? = some (.cells #[.int .i64 kd0, .int .i64 (tkAt L k).loc, .string (tkAt L k).s] 189 (0, 0)) := by
    have := heap_alloc_new (w.alloc (.cells #[.pointer (some ⟨rb, 0, none⟩), .map (some mb)] 116)) (.cells #[.int .i64 kd0, .int .i64 (tkAt L k).loc, .string (tkAt L k).s] 189)
    simpa using this
  have h1 := h.kept hK1
  have hv1 := hv.kept hK1
  have hrd0 := hka.blk hrd'
  have hrl := h.ltq
  have hml := lt_of_block hv.mp
  have d1 : (w.alloc (.cells #[.pointer (some ⟨rb, 0, none⟩), .map (some mb)] 116)).cell? ⟨rb, 1, none⟩ = some (.int .i64 kd0) := by simp only [World.cell?, hrd0]; rfl
  have d2 : (w.alloc (.cells #[.pointer (some ⟨rb, 0, none⟩), .map (some mb)] 116)).cell? ⟨rb, 2, none⟩ = some (.int .i64 (tkAt L k).loc) := by simp only [World.cell?, hrd0]; rfl
  have d3 : (w.alloc (.cells #[.pointer (some ⟨rb, 0, none⟩), .map (some mb)] 116)).cell? ⟨rb, 3, none⟩ = some (.string (tkAt L k).s) := by simp only [World.cell?, hrd0]; rfl
  have HKd : Hid _ := hT
  clear h hv hrd hrd' hrd0 hT hcv
  generalize hw1 : (w.alloc (.cells #[.pointer (some ⟨rb, 0, none⟩), .map (some mb)] 116)).alloc (.cells #[.int .i64 kd0, .int .i64 (tkAt L k).loc, .string (tkAt L k).s] 189) = w1 at *
  have a0 : w1.cell? ⟨w.heap.size, 0, none⟩ = some (.pointer (some ⟨rb, 0, none⟩)) := by simp [World.cell?, hcv1]
  have a1 : w1.cell? ⟨w.heap.size, 1, none⟩ = some (.map (some mb)) := by simp [World.cell?, hcv1]
  have t0 : w1.cell? ⟨w.heap.size + 1, 0, none⟩ = some (.int .i64 kd0) := by simp [World.cell?, htk]
  have t1 : w1.cell? ⟨w.heap.size + 1, 1, none⟩ = some (.int .i64 (tkAt L k).loc) := by simp [World.cell?, htk]
  have t2 : w1.cell? ⟨w.heap.size + 1, 2, none⟩ = some (.string (tkAt L k).s) := by simp [World.cell?, htk]
  have hKw : Kq (fun q => q = rb ∨ q = mb) w w1 := Kq.of_kept hK1
  have HI : Hid _ := at_is hE h1 { data := #[105, 110, 116] } (.inl hki)
  have HB : Hid _ := at_is hE h1 { data := #[98, 111, 111, 108] } (.inl hkb)
  have hk1 := isM_lt hG h1.lt hM (by decide) (by decide)
  have hkd : kd0 = 1 := (tk_one hE h1.lt HKd.out).2 (by
    simp only [isM, Bool.and_eq_true] at hM
    exact (sameS_iff _ _).1 hM.2)
  have hkz : ((kd0 : Int) == 1) = true := by simp [hkd]
  clear hkd
  rw [hM0] at HI
  rw [hM1] at HB
  have hnd := hok.nd
  by_cases hno : (tkAt L (k + 1)).is = { data := #[110, 111, 110, 101] }
  · have HA : Hid _ := at_advN hE h1 hk1 hno
    clear hM hM0 hM1 hcv1 htk
    go_enter Tryz.func79, Tryz.ntmps79
    go_wp2_with fail
    refine Calls.mono HI.out ?_
    rintro e w' ⟨rfl, hww⟩
    rw [hww]
    clear hww w'
    go_wp2_with fail
    refine Calls.mono HB.out ?_
    rintro e w' ⟨rfl, hww⟩
    rw [hww]
    clear hww w'
    go_wp2_with fail
    refine Calls.mono HA.out ?_
    rintro e w3 ⟨b, he, hx1, hx2, hx3⟩
    rw [he]
    clear he
    go_wp2
    exact ⟨rfl, PRes.thr (Thr2.before (Thr2.of ⟨b, rfl, hx1, hx2, hx3⟩) hKw) (.inr ⟨by omega, hno, rfl⟩)⟩
  · have HA : Hid _ := at_adv hE h1 hk1 hno
    clear hM hM0 hM1
    go_enter Tryz.func79, Tryz.ntmps79
    go_wp2_with fail
    refine Calls.mono HI.out ?_
    rintro e w' ⟨rfl, hww⟩
    rw [hww]
    clear hww w'
    go_wp2_with fail
    refine Calls.mono HB.out ?_
    rintro e w' ⟨rfl, hww⟩
    rw [hww]
    clear hww w'
    go_wp2_with fail
    refine Calls.mono HA.out ?_
    rintro e w3 ⟨rfl, hK3, hP3⟩
    have t32 : w3.cell? ⟨w.heap.size + 1, 2, none⟩ = some (.string (tkAt L k).s) := by have e := World.cell?_of_block (a := ⟨w.heap.size + 1, 2, none⟩) (hK3.block (w.heap.size + 1) (lt_of_block htk) (by show ¬ _; omega)); exact e.trans t2
    have hcv3 := (hK3.block w.heap.size (lt_of_block hcv1) (by show ¬ _; omega)).trans hcv1
    have r30 : w3.cell? ⟨w.heap.size, 0, none⟩ = some (.pointer (some ⟨rb, 0, none⟩)) := by simp [World.cell?, hcv3]
    have r31 : w3.cell? ⟨w.heap.size, 1, none⟩ = some (.map (some mb)) := by simp [World.cell?, hcv3]
    have hm3 := hv1.rd h1 hK3 hne
    have hPw3 := (PKeep.kept hK1).trans (PKeep.pat h1 hK3)
    have hKw3 := hKw.trans (Kq.of_kp (S := fun q => q = rb ∨ q = mb) hK3 (fun q e => Or.inl e))
    cases hfi : names.findIdx? (fun x => sameS x (tkAt L k).s) with
    | some j =>
      have HV : Hid _ := pvar_old w3 mb rb names vb (tkAt L k).s hm3 hnd j hfi
      have E : Hid (nameM names (tkAt L k).s = (.mk { data := #[] } j [], names)) := by show _ = _; unfold nameM; rw [hfi]
      have hjl : j < names.length := by
        rw [List.findIdx?_eq_some_iff_getElem] at hfi
        exact hfi.1
      have hjb : Hid (vb[j]? = some (vb.getD j 0)) := by
        show _ = _
        have : j < vb.length := by rw [hm3.len]; exact hjl
        simp [List.getD, this]
      clear hK3 htk hcv1 hcv3 hfi
      go_wp2_with fail
      refine Calls.mono HV.out ?_
      rintro e w4 ⟨rfl, hK4⟩
      have hEF : PEnd w w4 rb mb s L (k + 1) names vb vb := ⟨hP3.kept hK4, hm3.kept hK4, ⟨[], by simp⟩, hPw3.trans (PKeep.kept hK4), hKw3.trans (Kq.of_kept hK4)⟩
      have hfin : PTyR w4 vb w.heap.size w4.heap.size (.mk { data := #[] } j []) (.iface 124 (.pointer (some ⟨vb.getD j 0, 0, none⟩))) := .var j _ _ _ (Nat.le_trans hKw3.size hK4.size) hjb.out
      clear HV hm3
      go_wp2
      go_ret
      rw [E.out]
      exact PRes.ret (by omega) hfin hEF
    | none =>
      have HV : Hid _ := pvar_new w3 mb rb names vb (tkAt L k).s hm3 hnd hfi
      have E : Hid (nameM names (tkAt L k).s = (.mk { data := #[] } names.length [], names ++ [(tkAt L k).s])) := by show _ = _; unfold nameM; rw [hfi]
      have hlen := hm3.len
      clear hK3 htk hcv1 hcv3 hfi
      go_wp2_with fail
      refine Calls.mono HV.out ?_
      rintro e w4 ⟨b, rfl, hm4, hK4, hnb⟩
      have hP4 : PAt w4 rb s L (k + 1) := by
        obtain ⟨kdx, e1, e2⟩ := hP3.ex
        exact ⟨⟨kdx, hK4.blk e1 (fun e => hne e), e2⟩, hP3.lt, hP3.nn⟩
      have hEF : PEnd w w4 rb mb s L (k + 1) (names ++ [(tkAt L k).s]) vb (vb ++ [b]) := ⟨hP4, hm4, ⟨[b], rfl, fun c hc => by simp at hc; subst hc; exact Nat.le_trans hKw3.size hnb⟩, hPw3.trans (PKeep.vm hm3 hK4), hKw3.trans (Kq.of_kp hK4 (fun q e => Or.inr e))⟩
      have hfin : PTyR w4 (vb ++ [b]) w.heap.size w4.heap.size (.mk { data := #[] } names.length []) (.iface 124 (.pointer (some ⟨b, 0, none⟩))) := .var _ _ _ _ (Nat.le_trans hKw3.size hK4.size) (by rw [← hlen]; simp)
      clear HV hm3
      go_wp2
      go_ret
      rw [E.out]
      exact PRes.ret (by omega) hfin hEF

set_option maxRecDepth 20000 in
set_option maxHeartbeats 2000000 in
theorem pone_list (s : ByteArray) (kws : List ByteArray) (L : List Tk) (hE : PEnv s kws L) (hki : { data := #[105, 110, 116] } ∈ kws) (hkb : { data := #[98, 111, 111, 108] } ∈ kws) (w : World) (rb mb k : Nat) (names : List ByteArray) (vb : List Nat) (t : Ty) (names' : List ByteArray) (k' : Nat) (bad' : Int)
    (h : PAt w rb s L k) (hv : VM w mb names vb) (hok : NmOk L names) (hne : rb ≠ mb) (hkw : kws = [{ data := #[105, 110, 116] }, { data := #[98, 111, 111, 108] }]) (hM0 : isM L { data := #[105, 110, 116] } k (-1) = false) (hM1 : isM L { data := #[98, 111, 111, 108] } k (-1) = false) (hM2 : isM L { data := #[110, 97, 109, 101] } k (-1) = false) (hM : isM L { data := #[91] } k (-1) = true) (hC : ∀ w1, PAt w1 rb s L k → VM w1 mb names vb → Calls Tryz.prog 122 #[.agg #[.pointer (some ⟨rb, 0, none⟩), .map (some mb)]] w1 fun e w' => PRes w1 rb mb s L t names' k' bad' vb e w') :
    Calls Tryz.prog 79 #[.agg #[.pointer (some ⟨rb, 0, none⟩), .map (some mb)]] w fun e w' => PRes w rb mb s L t names' k' bad' vb e w' := by
  obtain ⟨kd0, hrd, hT⟩ := h.ex
  have hG := hE.good
  have hrd' : w.heap[rb]? = some (.cells #[.string s, .int .i64 kd0, .int .i64 (tkAt L k).loc, .string (tkAt L k).s] 191 (0, 0)) := hrd
  have hka : Kept w (w.alloc (.cells #[.pointer (some ⟨rb, 0, none⟩), .map (some mb)] 116)) := Kept.alloc _ _
  have hkb2 : Kept (w.alloc (.cells #[.pointer (some ⟨rb, 0, none⟩), .map (some mb)] 116)) ((w.alloc (.cells #[.pointer (some ⟨rb, 0, none⟩), .map (some mb)] 116)).alloc (.cells #[.int .i64 kd0, .int .i64 (tkAt L k).loc, .string (tkAt L k).s] 189)) := Kept.alloc _ _
  have hK1 := hka.trans hkb2
  have hcv : (w.alloc (.cells #[.pointer (some ⟨rb, 0, none⟩), .map (some mb)] 116)).heap[w.heap.size]? = some (.cells #[.pointer (some ⟨rb, 0, none⟩), .map (some mb)] 116 (0, 0)) := heap_alloc_new _ _
  have hcv1 := hkb2.blk hcv
  have htk : ((w.alloc (.cells #[.pointer (some ⟨rb, 0, none⟩), .map (some mb)] 116)).alloc (.cells #[.int .i64 kd0, .int .i64 (tkAt L k).loc, .string (tkAt L k).s] 189)).heap[w.heap.size + 1]? = some (.cells #[.int .i64 kd0, .int .i64 (tkAt L k).loc, .string (tkAt L k).s] 189 (0, 0)) := by
    have := heap_alloc_new (w.alloc (.cells #[.pointer (some ⟨rb, 0, none⟩), .map (some mb)] 116)) (.cells #[.int .i64 kd0, .int .i64 (tkAt L k).loc, .string (tkAt L k).s] 189)
    simpa using this
  have h1 := h.kept hK1
  have hv1 := hv.kept hK1
  have hrd0 := hka.blk hrd'
  have hrl := h.ltq
  have hml := lt_of_block hv.mp
  have d1 : (w.alloc (.cells #[.pointer (some ⟨rb, 0, none⟩), .map (some mb)] 116)).cell? ⟨rb, 1, none⟩ = some (.int .i64 kd0) := by simp only [World.cell?, hrd0]; rfl
  have d2 : (w.alloc (.cells #[.pointer (some ⟨rb, 0, none⟩), .map (some mb)] 116)).cell? ⟨rb, 2, none⟩ = some (.int .i64 (tkAt L k).loc) := by simp only [World.cell?, hrd0]; rfl
  have d3 : (w.alloc (.cells #[.pointer (some ⟨rb, 0, none⟩), .map (some mb)] 116)).cell? ⟨rb, 3, none⟩ = some (.string (tkAt L k).s) := by simp only [World.cell?, hrd0]; rfl
  have HKd : Hid _ := hT
  clear h hv hrd hrd' hrd0 hT hcv
  generalize hw1 : (w.alloc (.cells #[.pointer (some ⟨rb, 0, none⟩), .map (some mb)] 116)).alloc (.cells #[.int .i64 kd0, .int .i64 (tkAt L k).loc, .string (tkAt L k).s] 189) = w1 at *
  have a0 : w1.cell? ⟨w.heap.size, 0, none⟩ = some (.pointer (some ⟨rb, 0, none⟩)) := by simp [World.cell?, hcv1]
  have a1 : w1.cell? ⟨w.heap.size, 1, none⟩ = some (.map (some mb)) := by simp [World.cell?, hcv1]
  have t0 : w1.cell? ⟨w.heap.size + 1, 0, none⟩ = some (.int .i64 kd0) := by simp [World.cell?, htk]
  have t1 : w1.cell? ⟨w.heap.size + 1, 1, none⟩ = some (.int .i64 (tkAt L k).loc) := by simp [World.cell?, htk]
  have t2 : w1.cell? ⟨w.heap.size + 1, 2, none⟩ = some (.string (tkAt L k).s) := by simp [World.cell?, htk]
  have hKw : Kq (fun q => q = rb ∨ q = mb) w w1 := Kq.of_kept hK1
  have HI : Hid _ := at_is hE h1 { data := #[105, 110, 116] } (.inl hki)
  have HB : Hid _ := at_is hE h1 { data := #[98, 111, 111, 108] } (.inl hkb)
  have hkd : kd0 ≠ 1 := fun e => by
    rcases (tk_one hE h1.lt HKd.out).1 e with q | q
    · have : isM L { data := #[110, 97, 109, 101] } k (-1) = true := by simp only [isM, q]; rfl
      rw [hM2] at this
      cases this
    · have q := kwIn_mem q
      rw [hkw] at q
      simp at q
      rcases q with q | q
      · have e := at_text hE h1 { data := #[105, 110, 116] } (.inl hki)
        rw [q, hM0] at e
        simp at e
      · have e := at_text hE h1 { data := #[98, 111, 111, 108] } (.inl hkb)
        rw [q, hM1] at e
        simp at e
  have hkz : ((kd0 : Int) == 1) = false := by simp; omega
  rw [hM0] at HI
  rw [hM1] at HB
  have HL : Hid _ := at_is hE h1 { data := #[91] } (.inr (.inr ⟨91, rfl, rfl⟩))
  rw [hM] at HL
  have HC : Hid _ := hC w1 h1 hv1
  clear hM hM0 hM1 hM2 hcv1 htk hC
  go_enter Tryz.func79, Tryz.ntmps79
  go_wp2_with fail
  refine Calls.mono HI.out ?_
  rintro e w' ⟨rfl, hww⟩
  rw [hww]
  clear hww w'
  go_wp2_with fail
  refine Calls.mono HB.out ?_
  rintro e w' ⟨rfl, hww⟩
  rw [hww]
  clear hww w'
  go_wp2_with fail
  refine Calls.mono HL.out ?_
  rintro e w' ⟨rfl, hww⟩
  rw [hww]
  clear hww w'
  go_wp2_with fail
  refine Calls.mono HC.out ?_
  intro e w3 hres
  by_cases hthr : 0 ≤ bad' ∨ (tkAt L k').is = { data := #[110, 111, 110, 101] }
  · obtain ⟨loc, hl, b, he, hx1, hx2, hx3⟩ := hres.thrown hthr
    rw [he]
    clear he hres
    go_wp2
    exact ⟨rfl, PRes.thr (Thr2.before ⟨b, rfl, hx1, hx2, hx3⟩ hKw) hl⟩
  · have hb1 : bad' < 0 := by omega
    obtain ⟨v, vb1, he, hx, hEnd⟩ := hres.1 hb1 (fun e => hthr (.inr e))
    obtain ⟨T, u, rfl⟩ := hx.iface
    subst he
    clear hres
    go_wp2
    go_ret
    exact PRes.ret hb1 (hx.wide hK1.size (Nat.le_refl _)) ⟨hEnd.at', hEnd.vm, pre_mono hEnd.pre hK1.size, (PKeep.kept hK1).trans hEnd.pk, hKw.trans hEnd.kp⟩

set_option maxRecDepth 20000 in
set_option maxHeartbeats 2000000 in
theorem pone_brk (s : ByteArray) (kws : List ByteArray) (L : List Tk) (hE : PEnv s kws L) (hki : { data := #[105, 110, 116] } ∈ kws) (hkb : { data := #[98, 111, 111, 108] } ∈ kws) (w : World) (rb mb k : Nat) (names : List ByteArray) (vb : List Nat) (t : Ty) (names' : List ByteArray) (k' : Nat) (bad' : Int)
    (h : PAt w rb s L k) (hv : VM w mb names vb) (hok : NmOk L names) (hne : rb ≠ mb) (hkw : kws = [{ data := #[105, 110, 116] }, { data := #[98, 111, 111, 108] }]) (hM0 : isM L { data := #[105, 110, 116] } k (-1) = false) (hM1 : isM L { data := #[98, 111, 111, 108] } k (-1) = false) (hM2 : isM L { data := #[110, 97, 109, 101] } k (-1) = false) (hM3 : isM L { data := #[91] } k (-1) = false) (hM : isM L { data := #[40] } k (-1) = true) (hC : ∀ w1, PAt w1 rb s L k → VM w1 mb names vb → Calls Tryz.prog 123 #[.agg #[.pointer (some ⟨rb, 0, none⟩), .map (some mb)]] w1 fun e w' => PRes w1 rb mb s L t names' k' bad' vb e w') :
    Calls Tryz.prog 79 #[.agg #[.pointer (some ⟨rb, 0, none⟩), .map (some mb)]] w fun e w' => PRes w rb mb s L t names' k' bad' vb e w' := by
  obtain ⟨kd0, hrd, hT⟩ := h.ex
  have hG := hE.good
  have hrd' : w.heap[rb]? = some (.cells #[.string s, .int .i64 kd0, .int .i64 (tkAt L k).loc, .string (tkAt L k).s] 191 (0, 0)) := hrd
  have hka : Kept w (w.alloc (.cells #[.pointer (some ⟨rb, 0, none⟩), .map (some mb)] 116)) := Kept.alloc _ _
  have hkb2 : Kept (w.alloc (.cells #[.pointer (some ⟨rb, 0, none⟩), .map (some mb)] 116)) ((w.alloc (.cells #[.pointer (some ⟨rb, 0, none⟩), .map (some mb)] 116)).alloc (.cells #[.int .i64 kd0, .int .i64 (tkAt L k).loc, .string (tkAt L k).s] 189)) := Kept.alloc _ _
  have hK1 := hka.trans hkb2
  have hcv : (w.alloc (.cells #[.pointer (some ⟨rb, 0, none⟩), .map (some mb)] 116)).heap[w.heap.size]? = some (.cells #[.pointer (some ⟨rb, 0, none⟩), .map (some mb)] 116 (0, 0)) := heap_alloc_new _ _
  have hcv1 := hkb2.blk hcv
  have htk : ((w.alloc (.cells #[.pointer (some ⟨rb, 0, none⟩), .map (some mb)] 116)).alloc (.cells #[.int .i64 kd0, .int .i64 (tkAt L k).loc, .string (tkAt L k).s] 189)).heap[w.heap.size + 1]? = some (.cells #[.int .i64 kd0, .int .i64 (tkAt L k).loc, .string (tkAt L k).s] 189 (0, 0)) := by
    have := heap_alloc_new (w.alloc (.cells #[.pointer (some ⟨rb, 0, none⟩), .map (some mb)] 116)) (.cells #[.int .i64 kd0, .int .i64 (tkAt L k).loc, .string (tkAt L k).s] 189)
    simpa using this
  have h1 := h.kept hK1
  have hv1 := hv.kept hK1
  have hrd0 := hka.blk hrd'
  have hrl := h.ltq
  have hml := lt_of_block hv.mp
  have d1 : (w.alloc (.cells #[.pointer (some ⟨rb, 0, none⟩), .map (some mb)] 116)).cell? ⟨rb, 1, none⟩ = some (.int .i64 kd0) := by simp only [World.cell?, hrd0]; rfl
  have d2 : (w.alloc (.cells #[.pointer (some ⟨rb, 0, none⟩), .map (some mb)] 116)).cell? ⟨rb, 2, none⟩ = some (.int .i64 (tkAt L k).loc) := by simp only [World.cell?, hrd0]; rfl
  have d3 : (w.alloc (.cells #[.pointer (some ⟨rb, 0, none⟩), .map (some mb)] 116)).cell? ⟨rb, 3, none⟩ = some (.string (tkAt L k).s) := by simp only [World.cell?, hrd0]; rfl
  have HKd : Hid _ := hT
  clear h hv hrd hrd' hrd0 hT hcv
  generalize hw1 : (w.alloc (.cells #[.pointer (some ⟨rb, 0, none⟩), .map (some mb)] 116)).alloc (.cells #[.int .i64 kd0, .int .i64 (tkAt L k).loc, .string (tkAt L k).s] 189) = w1 at *
  have a0 : w1.cell? ⟨w.heap.size, 0, none⟩ = some (.pointer (some ⟨rb, 0, none⟩)) := by simp [World.cell?, hcv1]
  have a1 : w1.cell? ⟨w.heap.size, 1, none⟩ = some (.map (some mb)) := by simp [World.cell?, hcv1]
  have t0 : w1.cell? ⟨w.heap.size + 1, 0, none⟩ = some (.int .i64 kd0) := by simp [World.cell?, htk]
  have t1 : w1.cell? ⟨w.heap.size + 1, 1, none⟩ = some (.int .i64 (tkAt L k).loc) := by simp [World.cell?, htk]
  have t2 : w1.cell? ⟨w.heap.size + 1, 2, none⟩ = some (.string (tkAt L k).s) := by simp [World.cell?, htk]
  have hKw : Kq (fun q => q = rb ∨ q = mb) w w1 := Kq.of_kept hK1
  have HI : Hid _ := at_is hE h1 { data := #[105, 110, 116] } (.inl hki)
  have HB : Hid _ := at_is hE h1 { data := #[98, 111, 111, 108] } (.inl hkb)
  have hkd : kd0 ≠ 1 := fun e => by
    rcases (tk_one hE h1.lt HKd.out).1 e with q | q
    · have : isM L { data := #[110, 97, 109, 101] } k (-1) = true := by simp only [isM, q]; rfl
      rw [hM2] at this
      cases this
    · have q := kwIn_mem q
      rw [hkw] at q
      simp at q
      rcases q with q | q
      · have e := at_text hE h1 { data := #[105, 110, 116] } (.inl hki)
        rw [q, hM0] at e
        simp at e
      · have e := at_text hE h1 { data := #[98, 111, 111, 108] } (.inl hkb)
        rw [q, hM1] at e
        simp at e
  have hkz : ((kd0 : Int) == 1) = false := by simp; omega
  rw [hM0] at HI
  rw [hM1] at HB
  have HL : Hid _ := at_is hE h1 { data := #[91] } (.inr (.inr ⟨91, rfl, rfl⟩))
  have HP : Hid _ := at_is hE h1 { data := #[40] } (.inr (.inr ⟨40, rfl, rfl⟩))
  rw [hM3] at HL
  rw [hM] at HP
  have HC : Hid _ := hC w1 h1 hv1
  clear hM hM0 hM1 hM2 hM3 hcv1 htk hC
  go_enter Tryz.func79, Tryz.ntmps79
  go_wp2_with fail
  refine Calls.mono HI.out ?_
  rintro e w' ⟨rfl, hww⟩
  rw [hww]
  clear hww w'
  go_wp2_with fail
  refine Calls.mono HB.out ?_
  rintro e w' ⟨rfl, hww⟩
  rw [hww]
  clear hww w'
  go_wp2_with fail
  refine Calls.mono HL.out ?_
  rintro e w' ⟨rfl, hww⟩
  rw [hww]
  clear hww w'
  go_wp2_with fail
  refine Calls.mono HP.out ?_
  rintro e w' ⟨rfl, hww⟩
  rw [hww]
  clear hww w'
  go_wp2_with fail
  refine Calls.mono HC.out ?_
  intro e w3 hres
  by_cases hthr : 0 ≤ bad' ∨ (tkAt L k').is = { data := #[110, 111, 110, 101] }
  · obtain ⟨loc, hl, b, he, hx1, hx2, hx3⟩ := hres.thrown hthr
    rw [he]
    clear he hres
    go_wp2
    exact ⟨rfl, PRes.thr (Thr2.before ⟨b, rfl, hx1, hx2, hx3⟩ hKw) hl⟩
  · have hb1 : bad' < 0 := by omega
    obtain ⟨v, vb1, he, hx, hEnd⟩ := hres.1 hb1 (fun e => hthr (.inr e))
    obtain ⟨T, u, rfl⟩ := hx.iface
    subst he
    clear hres
    go_wp2
    go_ret
    exact PRes.ret hb1 (hx.wide hK1.size (Nat.le_refl _)) ⟨hEnd.at', hEnd.vm, pre_mono hEnd.pre hK1.size, (PKeep.kept hK1).trans hEnd.pk, hKw.trans hEnd.kp⟩

set_option maxRecDepth 20000 in
set_option maxHeartbeats 2000000 in
theorem pone_bad (s : ByteArray) (kws : List ByteArray) (L : List Tk) (hE : PEnv s kws L) (hki : { data := #[105, 110, 116] } ∈ kws) (hkb : { data := #[98, 111, 111, 108] } ∈ kws) (w : World) (rb mb k : Nat) (names : List ByteArray) (vb : List Nat) (t : Ty) (names' : List ByteArray) (k' : Nat)
    (h : PAt w rb s L k) (hv : VM w mb names vb) (hok : NmOk L names) (hne : rb ≠ mb) (hkw : kws = [{ data := #[105, 110, 116] }, { data := #[98, 111, 111, 108] }]) (hM0 : isM L { data := #[105, 110, 116] } k (-1) = false) (hM1 : isM L { data := #[98, 111, 111, 108] } k (-1) = false) (hM2 : isM L { data := #[110, 97, 109, 101] } k (-1) = false) (hM3 : isM L { data := #[91] } k (-1) = false) (hM4 : isM L { data := #[40] } k (-1) = false) :
    Calls Tryz.prog 79 #[.agg #[.pointer (some ⟨rb, 0, none⟩), .map (some mb)]] w fun e w' => PRes w rb mb s L t names' k' (tkAt L k).loc vb e w' := by
  obtain ⟨kd0, hrd, hT⟩ := h.ex
  have hG := hE.good
  have hrd' : w.heap[rb]? = some (.cells #[.string s, .int .i64 kd0, .int .i64 (tkAt L k).loc, .string (tkAt L k).s] 191 (0, 0)) := hrd
  have hka : Kept w (w.alloc (.cells #[.pointer (some ⟨rb, 0, none⟩), .map (some mb)] 116)) := Kept.alloc _ _
  have hkb2 : Kept (w.alloc (.cells #[.pointer (some ⟨rb, 0, none⟩), .map (some mb)] 116)) ((w.alloc (.cells #[.pointer (some ⟨rb, 0, none⟩), .map (some mb)] 116)).alloc (.cells #[.int .i64 kd0, .int .i64 (tkAt L k).loc, .string (tkAt L k).s] 189)) := Kept.alloc _ _
  have hK1 := hka.trans hkb2
  have hcv : (w.alloc (.cells #[.pointer (some ⟨rb, 0, none⟩), .map (some mb)] 116)).heap[w.heap.size]? = some (.cells #[.pointer (some ⟨rb, 0, none⟩), .map (some mb)] 116 (0, 0)) := heap_alloc_new _ _
  have hcv1 := hkb2.blk hcv
  have htk : ((w.alloc (.cells #[.pointer (some ⟨rb, 0, none⟩), .map (some mb)] 116)).alloc (.cells #[.int .i64 kd0, .int .i64 (tkAt L k).loc, .string (tkAt L k).s] 189)).heap[w.heap.size + 1]? = some (.cells #[.int .i64 kd0, .int .i64 (tkAt L k).loc, .string (tkAt L k).s] 189 (0, 0)) := by
    have := heap_alloc_new (w.alloc (.cells #[.pointer (some ⟨rb, 0, none⟩), .map (some mb)] 116)) (.cells #[.int .i64 kd0, .int .i64 (tkAt L k).loc, .string (tkAt L k).s] 189)
    simpa using this
  have h1 := h.kept hK1
  have hv1 := hv.kept hK1
  have hrd0 := hka.blk hrd'
  have hrl := h.ltq
  have hml := lt_of_block hv.mp
  have d1 : (w.alloc (.cells #[.pointer (some ⟨rb, 0, none⟩), .map (some mb)] 116)).cell? ⟨rb, 1, none⟩ = some (.int .i64 kd0) := by simp only [World.cell?, hrd0]; rfl
  have d2 : (w.alloc (.cells #[.pointer (some ⟨rb, 0, none⟩), .map (some mb)] 116)).cell? ⟨rb, 2, none⟩ = some (.int .i64 (tkAt L k).loc) := by simp only [World.cell?, hrd0]; rfl
  have d3 : (w.alloc (.cells #[.pointer (some ⟨rb, 0, none⟩), .map (some mb)] 116)).cell? ⟨rb, 3, none⟩ = some (.string (tkAt L k).s) := by simp only [World.cell?, hrd0]; rfl
  have HKd : Hid _ := hT
  clear h hv hrd hrd' hrd0 hT hcv
  generalize hw1 : (w.alloc (.cells #[.pointer (some ⟨rb, 0, none⟩), .map (some mb)] 116)).alloc (.cells #[.int .i64 kd0, .int .i64 (tkAt L k).loc, .string (tkAt L k).s] 189) = w1 at *
  have a0 : w1.cell? ⟨w.heap.size, 0, none⟩ = some (.pointer (some ⟨rb, 0, none⟩)) := by simp [World.cell?, hcv1]
  have a1 : w1.cell? ⟨w.heap.size, 1, none⟩ = some (.map (some mb)) := by simp [World.cell?, hcv1]
  have t0 : w1.cell? ⟨w.heap.size + 1, 0, none⟩ = some (.int .i64 kd0) := by simp [World.cell?, htk]
  have t1 : w1.cell? ⟨w.heap.size + 1, 1, none⟩ = some (.int .i64 (tkAt L k).loc) := by simp [World.cell?, htk]
  have t2 : w1.cell? ⟨w.heap.size + 1, 2, none⟩ = some (.string (tkAt L k).s) := by simp [World.cell?, htk]
  have hKw : Kq (fun q => q = rb ∨ q = mb) w w1 := Kq.of_kept hK1
  have HI : Hid _ := at_is hE h1 { data := #[105, 110, 116] } (.inl hki)
  have HB : Hid _ := at_is hE h1 { data := #[98, 111, 111, 108] } (.inl hkb)
  have hkd : kd0 ≠ 1 := fun e => by
    rcases (tk_one hE h1.lt HKd.out).1 e with q | q
    · have : isM L { data := #[110, 97, 109, 101] } k (-1) = true := by simp only [isM, q]; rfl
      rw [hM2] at this
      cases this
    · have q := kwIn_mem q
      rw [hkw] at q
      simp at q
      rcases q with q | q
      · have e := at_text hE h1 { data := #[105, 110, 116] } (.inl hki)
        rw [q, hM0] at e
        simp at e
      · have e := at_text hE h1 { data := #[98, 111, 111, 108] } (.inl hkb)
        rw [q, hM1] at e
        simp at e
  have hkz : ((kd0 : Int) == 1) = false := by simp; omega
  rw [hM0] at HI
  rw [hM1] at HB
  have HL : Hid _ := at_is hE h1 { data := #[91] } (.inr (.inr ⟨91, rfl, rfl⟩))
  have HP : Hid _ := at_is hE h1 { data := #[40] } (.inr (.inr ⟨40, rfl, rfl⟩))
  rw [hM3] at HL
  rw [hM4] at HP
  have HX : Hid _ := (by obtain ⟨kdx, e1, _⟩ := h1.ex; exact prr_any w1 rb s _ kdx _ e1 : Calls Tryz.prog 81 #[.pointer (some ⟨rb, 0, none⟩)] w1 fun e w' => ThrS w1 (tkAt L k).loc e w')
  clear hM0 hM1 hM2 hM3 hM4 hcv1 htk
  go_enter Tryz.func79, Tryz.ntmps79
  go_wp2_with fail
  refine Calls.mono HI.out ?_
  rintro e w' ⟨rfl, hww⟩
  rw [hww]
  clear hww w'
  go_wp2_with fail
  refine Calls.mono HB.out ?_
  rintro e w' ⟨rfl, hww⟩
  rw [hww]
  clear hww w'
  go_wp2_with fail
  refine Calls.mono HL.out ?_
  rintro e w' ⟨rfl, hww⟩
  rw [hww]
  clear hww w'
  go_wp2_with fail
  refine Calls.mono HP.out ?_
  rintro e w' ⟨rfl, hww⟩
  rw [hww]
  clear hww w'
  go_wp2_with fail
  refine Calls.mono HX.out ?_
  rintro e w3 ⟨b, he, hx1, hx2, hx3⟩
  rw [he]
  clear he
  go_wp2
  exact ⟨rfl, PRes.thr (Thr2.before (Thr2.of ⟨b, rfl, hx1, hx2, hx3⟩) hKw) (.inl rfl)⟩
end Go.Proofs.YtleenphlgbklmabGreatDoor
