import Derived.Test.YtleenphlgbklmabGreatDoorZPRdC
set_option linter.unusedVariables false
set_option linter.unusedSimpArgs false
namespace Go.Proofs.YtleenphlgbklmabGreatDoor
open Go.RowKit

set_option maxRecDepth 20000 in
set_option maxHeartbeats 1000000 in
theorem patom_name {s : ByteArray} {L : List Tk} (hE : PEnv s wordsL L) (w : World) (rb k : Nat) (h : PAt w rb s L k) (hM : isM L { data := #[110, 97, 109, 101] } k (-1) = true) :
    Calls Tryz.prog 152 #[.agg #[.pointer (some ⟨rb, 0, none⟩)]] w fun e w' => PRet (QX w (.mk { data := #[110, 97, 109, 101] } [(tkAt L k).s] [] (tkAt L k).loc)) w rb s L (k + 1) (-1) e w' := by
  have hlt := isM_lt hE.good h.lt hM (by decide) (by decide)
  have his := is_name hM
  have hk0 : Kp (fun _ => False) w (w.alloc (.cells #[.pointer (some ⟨rb, 0, none⟩)] 174)) := (Kp.refl _ _).alloc _
  have hc0 : (w.alloc (.cells #[.pointer (some ⟨rb, 0, none⟩)] 174)).heap[w.heap.size]? = some (.cells #[.pointer (some ⟨rb, 0, none⟩)] 174 (0, 0)) := heap_alloc_new _ _
  have h0 : PAt (w.alloc (.cells #[.pointer (some ⟨rb, 0, none⟩)] 174)) rb s L k := h.kp hk0
  have hrl := h.lt'
  generalize hw0 : w.alloc (.cells #[.pointer (some ⟨rb, 0, none⟩)] 174) = w0 at *
  have a0 : w0.cell? ⟨w.heap.size, 0, none⟩ = some (.pointer (some ⟨rb, 0, none⟩)) := by simp [World.cell?, hc0]
  obtain ⟨kd, hr, hT⟩ := h0.ex
  obtain ⟨_, c1, c2, c3⟩ := hr.c
  have hkd := (tk_kind hE h.lt hT)
  have hWd : Wd (tkAt L k).s := hkd.2.2 (by rw [his]; simp)
  have hkd1 : kd = 1 := by
    rw [his] at hkd
    have e := hkd.1; rw [(sameS_iff _ _).2 rfl] at e; simp at e; exact e.1
  subst hkd1
  have c1 : w0.cell? ⟨rb, 1, none⟩ = some (.int .i64 1) := c1
  have HA : Hid _ := patatom hE h0
  have hcond : (isM L { data := #[110, 97, 109, 101] } k (-1) || isM L { data := #[110, 117, 109] } k (-1) || isM L { data := #[40] } k (-1)) = true := by rw [hM]; simp
  rw [hcond] at HA
  clear hr hT hkd hM his h hcond
  go_enter Tryz.func152, Tryz.ntmps152
  go_wp2_with fail
  refine Calls.mono HA.out ?_
  rintro e w1 ⟨rfl, hk1⟩
  have d1 := hk1.cell c1 (fun z => z)
  have d2 := hk1.cell c2 (fun z => z)
  have d3 := hk1.cell c3 (fun z => z)
  have d0 := hk1.cell a0 (fun z => z)
  have hkt : Kp (fun _ => False) w1 (w1.alloc (.cells #[.int .i64 1, .int .i64 (tkAt L k).loc, .string (tkAt L k).s] 189)) := (Kp.refl _ _).alloc _
  have hct : (w1.alloc (.cells #[.int .i64 1, .int .i64 (tkAt L k).loc, .string (tkAt L k).s] 189)).heap[w1.heap.size]? = some (.cells #[.int .i64 1, .int .i64 (tkAt L k).loc, .string (tkAt L k).s] 189 (0, 0)) := heap_alloc_new _ _
  have hc2 := hkt.blk (hk1.blk hc0 (fun z => z)) (fun z => z)
  have P2 := (h0.kp hk1).kp hkt
  have hk2 := (hk0.trans hk1).trans hkt
  have h2l : w.heap.size < w1.heap.size := by have := lt_of_block (hk1.blk hc0 (fun z => z)); exact this
  generalize hw2 : w1.alloc (.cells #[.int .i64 1, .int .i64 (tkAt L k).loc, .string (tkAt L k).s] 189) = w2 at *
  have e0 : w2.cell? ⟨w1.heap.size, 0, none⟩ = some (.int .i64 1) := by simp [World.cell?, hct]
  have e1 : w2.cell? ⟨w1.heap.size, 1, none⟩ = some (.int .i64 (tkAt L k).loc) := by simp [World.cell?, hct]
  have e2 : w2.cell? ⟨w1.heap.size, 2, none⟩ = some (.string (tkAt L k).s) := by simp [World.cell?, hct]
  have e3 : w2.cell? ⟨w.heap.size, 0, none⟩ = some (.pointer (some ⟨rb, 0, none⟩)) := by simp [World.cell?, hc2]
  have HB : Hid _ := px_adv hE P2 hlt
  clear HA
  go_wp2_with fail
  refine Calls.mono HB.out ?_
  intro e w3 hres
  clear HB
  by_cases hz : 0 ≤ bz L (k + 1) (-1)
  · obtain ⟨b, he, hx⟩ := hres.2 hz
    rw [he]
    clear he hres
    go_wp2
    exact ⟨rfl, PRet.up (Kq.of_kp hk2 (fun _ z => z.elim)) hz (fun _ => rfl) ⟨b, rfl, hx⟩⟩
  obtain ⟨_, v, he, hv, P3, kq⟩ := hres.1 (by omega)
  clear hz hres
  subst hv
  subst he
  have KK := (Kq.of_kp (S := (· = rb)) hk2 (fun _ z => z.elim)).trans kq
  have hct3 := (kq.block _ (lt_of_block hct) (by show ¬ _; omega)).trans hct
  have hc3p := (kq.block _ (lt_of_block hc2) (by show ¬ _; omega)).trans hc2
  have g0 : w3.cell? ⟨w1.heap.size, 0, none⟩ = some (.int .i64 1) := by simp [World.cell?, hct3]
  have g1 : w3.cell? ⟨w1.heap.size, 1, none⟩ = some (.int .i64 (tkAt L k).loc) := by simp [World.cell?, hct3]
  have g2 : w3.cell? ⟨w1.heap.size, 2, none⟩ = some (.string (tkAt L k).s) := by simp [World.cell?, hct3]
  have g3 : w3.cell? ⟨w.heap.size, 0, none⟩ = some (.pointer (some ⟨rb, 0, none⟩)) := by simp [World.cell?, hc3p]
  have HN : Hid _ := above_none w3.drew
  have HJ : Hid (∀ wfp, Kp (fun _ => False) w3.drew wfp → wfp.cell? ⟨w1.heap.size, 1, none⟩ = some (.int .i64 (tkAt L k).loc) ∧ wfp.cell? ⟨w1.heap.size, 2, none⟩ = some (.string (tkAt L k).s) ∧ Hid (PRet (QX w (.mk { data := #[110, 97, 109, 101] } [(tkAt L k).s] [] (tkAt L k).loc)) w rb s L (k + 1) (-1) (.returned (.iface 233 (.pointer (some ⟨wfp.heap.size, 0, none⟩)))) (wfp.alloc (.cells #[.int .i64 1, .string (tkAt L k).s, .int .i64 (tkAt L k).loc] 239)))) := fun wfp hkf => by
    have KF := (KK.trans (Kq.of_kp (S := (· = rb)) ((Kp.refl (fun _ => False) w3).drew) (fun _ z => z.elim))).trans (Kq.of_kp (S := (· = rb)) hkf (fun _ z => z.elim))
    have PF := (P3.kp ((Kp.refl (fun _ => False) w3).drew)).kp hkf
    have hkg : Kp (fun _ => False) wfp (wfp.alloc (.cells #[.int .i64 1, .string (tkAt L k).s, .int .i64 (tkAt L k).loc] 239)) := (Kp.refl _ _).alloc _
    have hbg : (wfp.alloc (.cells #[.int .i64 1, .string (tkAt L k).s, .int .i64 (tkAt L k).loc] 239)).heap[wfp.heap.size]? = some (.cells #[.int .i64 1, .string (tkAt L k).s, .int .i64 (tkAt L k).loc] 239 (0, 0)) := heap_alloc_new _ _
    exact ⟨hkf.cell g1 (fun z => z), hkf.cell g2 (fun z => z), PRet.ret (Q := QX w (.mk { data := #[110, 97, 109, 101] } [(tkAt L k).s] [] (tkAt L k).loc)) (PX.name _ _ _ hWd KF.size hbg) (PF.kp hkg) (KF.trans (Kq.of_kp (S := (· = rb)) hkg (fun _ z => z.elim)))⟩
  clear hct hct3 hc2 hc3p hkt
  go_wp2_with fail
  go_region_held3 (fun w' => w'.cell? ⟨w1.heap.size, 1, none⟩ = some (.int .i64 (tkAt L k).loc) ∧ w'.cell? ⟨w1.heap.size, 2, none⟩ = some (.string (tkAt L k).s)) (go_keep) (first | (go_at_call 150; refine Calls.mono HN.out ?_; rintro e wfp ⟨rfl, hkf⟩; obtain ⟨j1, j2, FX⟩ := HJ.out wfp hkf))
  all_goals
    go_wp2
    go_ret
    exact FX.out
set_option maxRecDepth 20000 in
set_option maxHeartbeats 1000000 in
theorem patom_num {s : ByteArray} {L : List Tk} (hE : PEnv s wordsL L) (w : World) (rb k : Nat) (h : PAt w rb s L k) (hM : isM L { data := #[110, 117, 109] } k (-1) = true) :
    Calls Tryz.prog 152 #[.agg #[.pointer (some ⟨rb, 0, none⟩)]] w fun e w' => PRet (QX w (.mk { data := #[110, 117, 109] } [(tkAt L k).s] [] (tkAt L k).loc)) w rb s L (k + 1) (-1) e w' := by
  have hlt := isM_lt hE.good h.lt hM (by decide) (by decide)
  have his := is_name hM
  have hk0 : Kp (fun _ => False) w (w.alloc (.cells #[.pointer (some ⟨rb, 0, none⟩)] 174)) := (Kp.refl _ _).alloc _
  have hc0 : (w.alloc (.cells #[.pointer (some ⟨rb, 0, none⟩)] 174)).heap[w.heap.size]? = some (.cells #[.pointer (some ⟨rb, 0, none⟩)] 174 (0, 0)) := heap_alloc_new _ _
  have h0 : PAt (w.alloc (.cells #[.pointer (some ⟨rb, 0, none⟩)] 174)) rb s L k := h.kp hk0
  have hrl := h.lt'
  generalize hw0 : w.alloc (.cells #[.pointer (some ⟨rb, 0, none⟩)] 174) = w0 at *
  have a0 : w0.cell? ⟨w.heap.size, 0, none⟩ = some (.pointer (some ⟨rb, 0, none⟩)) := by simp [World.cell?, hc0]
  obtain ⟨kd, hr, hT⟩ := h0.ex
  obtain ⟨_, c1, c2, c3⟩ := hr.c
  have hkd := (tk_kind hE h.lt hT)
  have hWd : Wd (tkAt L k).s := hkd.2.2 (by rw [his]; simp)
  have hkd1 : kd = 2 := by
    rw [his] at hkd
    have e := hkd.2.1; rw [(sameS_iff _ _).2 rfl] at e; simpa using e
  subst hkd1
  have c1 : w0.cell? ⟨rb, 1, none⟩ = some (.int .i64 2) := c1
  have HA : Hid _ := patatom hE h0
  have hcond : (isM L { data := #[110, 97, 109, 101] } k (-1) || isM L { data := #[110, 117, 109] } k (-1) || isM L { data := #[40] } k (-1)) = true := by rw [hM]; simp
  rw [hcond] at HA
  clear hr hT hkd hM his h hcond
  go_enter Tryz.func152, Tryz.ntmps152
  go_wp2_with fail
  refine Calls.mono HA.out ?_
  rintro e w1 ⟨rfl, hk1⟩
  have d1 := hk1.cell c1 (fun z => z)
  have d2 := hk1.cell c2 (fun z => z)
  have d3 := hk1.cell c3 (fun z => z)
  have d0 := hk1.cell a0 (fun z => z)
  have hkt : Kp (fun _ => False) w1 (w1.alloc (.cells #[.int .i64 2, .int .i64 (tkAt L k).loc, .string (tkAt L k).s] 189)) := (Kp.refl _ _).alloc _
  have hct : (w1.alloc (.cells #[.int .i64 2, .int .i64 (tkAt L k).loc, .string (tkAt L k).s] 189)).heap[w1.heap.size]? = some (.cells #[.int .i64 2, .int .i64 (tkAt L k).loc, .string (tkAt L k).s] 189 (0, 0)) := heap_alloc_new _ _
  have hc2 := hkt.blk (hk1.blk hc0 (fun z => z)) (fun z => z)
  have P2 := (h0.kp hk1).kp hkt
  have hk2 := (hk0.trans hk1).trans hkt
  have h2l : w.heap.size < w1.heap.size := by have := lt_of_block (hk1.blk hc0 (fun z => z)); exact this
  generalize hw2 : w1.alloc (.cells #[.int .i64 2, .int .i64 (tkAt L k).loc, .string (tkAt L k).s] 189) = w2 at *
  have e0 : w2.cell? ⟨w1.heap.size, 0, none⟩ = some (.int .i64 2) := by simp [World.cell?, hct]
  have e1 : w2.cell? ⟨w1.heap.size, 1, none⟩ = some (.int .i64 (tkAt L k).loc) := by simp [World.cell?, hct]
  have e2 : w2.cell? ⟨w1.heap.size, 2, none⟩ = some (.string (tkAt L k).s) := by simp [World.cell?, hct]
  have e3 : w2.cell? ⟨w.heap.size, 0, none⟩ = some (.pointer (some ⟨rb, 0, none⟩)) := by simp [World.cell?, hc2]
  have HB : Hid _ := px_adv hE P2 hlt
  clear HA
  go_wp2_with fail
  refine Calls.mono HB.out ?_
  intro e w3 hres
  clear HB
  by_cases hz : 0 ≤ bz L (k + 1) (-1)
  · obtain ⟨b, he, hx⟩ := hres.2 hz
    rw [he]
    clear he hres
    go_wp2
    exact ⟨rfl, PRet.up (Kq.of_kp hk2 (fun _ z => z.elim)) hz (fun _ => rfl) ⟨b, rfl, hx⟩⟩
  obtain ⟨_, v, he, hv, P3, kq⟩ := hres.1 (by omega)
  clear hz hres
  subst hv
  subst he
  have KK := (Kq.of_kp (S := (· = rb)) hk2 (fun _ z => z.elim)).trans kq
  have hct3 := (kq.block _ (lt_of_block hct) (by show ¬ _; omega)).trans hct
  have hc3p := (kq.block _ (lt_of_block hc2) (by show ¬ _; omega)).trans hc2
  have g0 : w3.cell? ⟨w1.heap.size, 0, none⟩ = some (.int .i64 2) := by simp [World.cell?, hct3]
  have g1 : w3.cell? ⟨w1.heap.size, 1, none⟩ = some (.int .i64 (tkAt L k).loc) := by simp [World.cell?, hct3]
  have g2 : w3.cell? ⟨w1.heap.size, 2, none⟩ = some (.string (tkAt L k).s) := by simp [World.cell?, hct3]
  have g3 : w3.cell? ⟨w.heap.size, 0, none⟩ = some (.pointer (some ⟨rb, 0, none⟩)) := by simp [World.cell?, hc3p]
  have HN : Hid _ := above_none w3.drew
  have HJ : Hid (∀ wfp, Kp (fun _ => False) w3.drew wfp → wfp.cell? ⟨w1.heap.size, 1, none⟩ = some (.int .i64 (tkAt L k).loc) ∧ wfp.cell? ⟨w1.heap.size, 2, none⟩ = some (.string (tkAt L k).s) ∧ Hid (PRet (QX w (.mk { data := #[110, 117, 109] } [(tkAt L k).s] [] (tkAt L k).loc)) w rb s L (k + 1) (-1) (.returned (.iface 259 (.pointer (some ⟨wfp.heap.size, 0, none⟩)))) (wfp.alloc (.cells #[.int .i64 1, .string (tkAt L k).s] 261)))) := fun wfp hkf => by
    have KF := (KK.trans (Kq.of_kp (S := (· = rb)) ((Kp.refl (fun _ => False) w3).drew) (fun _ z => z.elim))).trans (Kq.of_kp (S := (· = rb)) hkf (fun _ z => z.elim))
    have PF := (P3.kp ((Kp.refl (fun _ => False) w3).drew)).kp hkf
    have hkg : Kp (fun _ => False) wfp (wfp.alloc (.cells #[.int .i64 1, .string (tkAt L k).s] 261)) := (Kp.refl _ _).alloc _
    have hbg : (wfp.alloc (.cells #[.int .i64 1, .string (tkAt L k).s] 261)).heap[wfp.heap.size]? = some (.cells #[.int .i64 1, .string (tkAt L k).s] 261 (0, 0)) := heap_alloc_new _ _
    exact ⟨hkf.cell g1 (fun z => z), hkf.cell g2 (fun z => z), PRet.ret (Q := QX w (.mk { data := #[110, 117, 109] } [(tkAt L k).s] [] (tkAt L k).loc)) (PX.num _ _ _ hWd KF.size hbg) (PF.kp hkg) (KF.trans (Kq.of_kp (S := (· = rb)) hkg (fun _ z => z.elim)))⟩
  clear hct hct3 hc2 hc3p hkt
  go_wp2_with fail
  go_region_held3 (fun w' => w'.cell? ⟨w1.heap.size, 1, none⟩ = some (.int .i64 (tkAt L k).loc) ∧ w'.cell? ⟨w1.heap.size, 2, none⟩ = some (.string (tkAt L k).s)) (go_keep) (first | (go_at_call 150; refine Calls.mono HN.out ?_; rintro e wfp ⟨rfl, hkf⟩; obtain ⟨j1, j2, FX⟩ := HJ.out wfp hkf))
  all_goals
    go_wp2
    go_ret
    exact FX.out
set_option maxRecDepth 20000 in
set_option maxHeartbeats 1000000 in
theorem patom_br {s : ByteArray} {L : List Tk} (hE : PEnv s wordsL L) (w : World) (rb k : Nat) (h : PAt w rb s L k) (hM : isM L { data := #[40] } k (-1) = true) (x : X) (k' : Nat) (bad' : Int) (hS : 0 ≤ bz L (k + 1) (-1) → bz L k' bad' = bz L (k + 1) (-1))
    (hC : ∀ w1, PAt w1 rb s L (k + 1) → Calls Tryz.prog 170 #[.agg #[.pointer (some ⟨rb, 0, none⟩)]] w1 fun e w' => PRet (QX w1 x) w1 rb s L k' bad' e w') :
    Calls Tryz.prog 152 #[.agg #[.pointer (some ⟨rb, 0, none⟩)]] w fun e w' => PRet (QX w x) w rb s L k' bad' e w' := by
  have hlt := isM_lt hE.good h.lt hM (by decide) (by decide)
  have his := is_name hM
  have hk0 : Kp (fun _ => False) w (w.alloc (.cells #[.pointer (some ⟨rb, 0, none⟩)] 174)) := (Kp.refl _ _).alloc _
  have hc0 : (w.alloc (.cells #[.pointer (some ⟨rb, 0, none⟩)] 174)).heap[w.heap.size]? = some (.cells #[.pointer (some ⟨rb, 0, none⟩)] 174 (0, 0)) := heap_alloc_new _ _
  have h0 : PAt (w.alloc (.cells #[.pointer (some ⟨rb, 0, none⟩)] 174)) rb s L k := h.kp hk0
  have hrl := h.lt'
  generalize hw0 : w.alloc (.cells #[.pointer (some ⟨rb, 0, none⟩)] 174) = w0 at *
  have a0 : w0.cell? ⟨w.heap.size, 0, none⟩ = some (.pointer (some ⟨rb, 0, none⟩)) := by simp [World.cell?, hc0]
  obtain ⟨kd, hr, hT⟩ := h0.ex
  obtain ⟨_, c1, c2, c3⟩ := hr.c
  have hkd := (tk_kind hE h.lt hT)
  have hkd1 : ((kd : Int) == 1) = false ∧ ((kd : Int) == 2) = false := by
    have l := (tk_link hE.kw hE.eq k h.lt).2
    have e1 := hkd.2.1
    rw [his, sameS_f (ne_of_list (by decide))] at e1
    have e2 : kd ≠ 1 := fun z => by
      cases l with
      | fin a b c d e => rw [his] at b; exact absurd b (ne_of_list (by decide))
      | bad a b => rw [his] at a; exact absurd a (ne_of_list (by decide))
      | word a b c d =>
        rw [his] at d
        split at d
        · rename_i q
          have := (hE.kw.low _ (kwIn_mem q))
          rw [← d] at this
          exact absurd this (by decide)
        · exact absurd d (ne_of_list (by decide))
      | num a b c d e => rw [his] at e; exact absurd e (ne_of_list (by decide))
      | sign a b c d e f =>
        rw [d] at hT
        simp only [Option.some.injEq, Prod.mk.injEq] at hT
        omega
    have e3 : kd ≠ 2 := by simpa using e1
    exact ⟨by simp; omega, by simp; omega⟩
  obtain ⟨z1, z2⟩ := hkd1
  have HA : Hid _ := patatom hE h0
  have hcond : (isM L { data := #[110, 97, 109, 101] } k (-1) || isM L { data := #[110, 117, 109] } k (-1) || isM L { data := #[40] } k (-1)) = true := by rw [hM]; simp
  rw [hcond] at HA
  have HS : Hid _ := hS
  have HCC : Hid _ := hC
  clear hr hT hkd hM his h hcond hS hC
  go_enter Tryz.func152, Tryz.ntmps152
  go_wp2_with fail
  refine Calls.mono HA.out ?_
  rintro e w1 ⟨rfl, hk1⟩
  have d1 := hk1.cell c1 (fun z => z)
  have d2 := hk1.cell c2 (fun z => z)
  have d3 := hk1.cell c3 (fun z => z)
  have d0 := hk1.cell a0 (fun z => z)
  have hkt : Kp (fun _ => False) w1 (w1.alloc (.cells #[.int .i64 kd, .int .i64 (tkAt L k).loc, .string (tkAt L k).s] 189)) := (Kp.refl _ _).alloc _
  have hct : (w1.alloc (.cells #[.int .i64 kd, .int .i64 (tkAt L k).loc, .string (tkAt L k).s] 189)).heap[w1.heap.size]? = some (.cells #[.int .i64 kd, .int .i64 (tkAt L k).loc, .string (tkAt L k).s] 189 (0, 0)) := heap_alloc_new _ _
  have hc2 := hkt.blk (hk1.blk hc0 (fun z => z)) (fun z => z)
  have P2 := (h0.kp hk1).kp hkt
  have hk2 := (hk0.trans hk1).trans hkt
  have h2l : w.heap.size < w1.heap.size := by have := lt_of_block (hk1.blk hc0 (fun z => z)); exact this
  generalize hw2 : w1.alloc (.cells #[.int .i64 kd, .int .i64 (tkAt L k).loc, .string (tkAt L k).s] 189) = w2 at *
  have e0 : w2.cell? ⟨w1.heap.size, 0, none⟩ = some (.int .i64 kd) := by simp [World.cell?, hct]
  have e1 : w2.cell? ⟨w1.heap.size, 1, none⟩ = some (.int .i64 (tkAt L k).loc) := by simp [World.cell?, hct]
  have e2 : w2.cell? ⟨w1.heap.size, 2, none⟩ = some (.string (tkAt L k).s) := by simp [World.cell?, hct]
  have e3 : w2.cell? ⟨w.heap.size, 0, none⟩ = some (.pointer (some ⟨rb, 0, none⟩)) := by simp [World.cell?, hc2]
  have HB : Hid _ := px_adv hE P2 hlt
  clear HA
  go_wp2_with fail
  refine Calls.mono HB.out ?_
  intro e w3 hres
  clear HB
  by_cases hz : 0 ≤ bz L (k + 1) (-1)
  · obtain ⟨b, he, hx⟩ := hres.2 hz
    rw [he]
    clear he hres
    go_wp2
    exact ⟨rfl, PRet.up (Kq.of_kp hk2 (fun _ z => z.elim)) hz HS.out ⟨b, rfl, hx⟩⟩
  obtain ⟨_, v, he, hv, P3, kq⟩ := hres.1 (by omega)
  clear hz hres
  subst hv
  subst he
  have KK := (Kq.of_kp (S := (· = rb)) hk2 (fun _ z => z.elim)).trans kq
  have hct3 := (kq.block _ (lt_of_block hct) (by show ¬ _; omega)).trans hct
  have hc3p := (kq.block _ (lt_of_block hc2) (by show ¬ _; omega)).trans hc2
  have g0 : w3.cell? ⟨w1.heap.size, 0, none⟩ = some (.int .i64 kd) := by simp [World.cell?, hct3]
  have g1 : w3.cell? ⟨w1.heap.size, 1, none⟩ = some (.int .i64 (tkAt L k).loc) := by simp [World.cell?, hct3]
  have g2 : w3.cell? ⟨w1.heap.size, 2, none⟩ = some (.string (tkAt L k).s) := by simp [World.cell?, hct3]
  have g3 : w3.cell? ⟨w.heap.size, 0, none⟩ = some (.pointer (some ⟨rb, 0, none⟩)) := by simp [World.cell?, hc3p]
  have HN : Hid _ := HCC.out w3 P3
  clear hct hct3 hc2 hc3p hkt HCC
  go_wp2_with fail
  refine Calls.mono HN.out ?_
  intro e w4 hres
  clear HN
  by_cases hz : 0 ≤ bz L k' bad'
  · obtain ⟨b, he, hx⟩ := hres.2 hz
    rw [he]
    clear he hres
    go_wp2
    exact ⟨rfl, PRet.up KK hz (fun _ => rfl) ⟨b, rfl, hx⟩⟩
  obtain ⟨hb, v, he, hv, P4, kq4⟩ := hres.1 (by omega)
  clear hz hres
  have X4 : PX w4 (fun b => w.heap.size ≤ b) x v := hv.mono (fun b h1 _ => Nat.le_trans KK.size h1)
  obtain ⟨T, u, rfl⟩ := hv.iface
  subst he
  subst hb
  have FX : Hid (PRet (QX w x) w rb s L k' (-1) (.returned (.iface T u)) w4) := PRet.ret (Q := QX w x) X4 P4 (KK.trans kq4)
  clear hv X4
  go_wp2
  go_ret
  exact FX.out
set_option maxRecDepth 20000 in
set_option maxHeartbeats 1000000 in
theorem patom_bad {s : ByteArray} {L : List Tk} (hE : PEnv s wordsL L) (w : World) (rb k : Nat) (h : PAt w rb s L k) (h1 : isM L { data := #[110, 97, 109, 101] } k (-1) = false) (h2 : isM L { data := #[110, 117, 109] } k (-1) = false) (h3 : isM L { data := #[40] } k (-1) = false) (Q : World → Value → Prop) (k' : Nat) (bad' : Int) (hS : bz L k' bad' = (tkAt L k).loc) :
    Calls Tryz.prog 152 #[.agg #[.pointer (some ⟨rb, 0, none⟩)]] w fun e w' => PRet Q w rb s L k' bad' e w' := by
  have hk0 : Kp (fun _ => False) w (w.alloc (.cells #[.pointer (some ⟨rb, 0, none⟩)] 174)) := (Kp.refl _ _).alloc _
  have hc0 : (w.alloc (.cells #[.pointer (some ⟨rb, 0, none⟩)] 174)).heap[w.heap.size]? = some (.cells #[.pointer (some ⟨rb, 0, none⟩)] 174 (0, 0)) := heap_alloc_new _ _
  have h0 : PAt (w.alloc (.cells #[.pointer (some ⟨rb, 0, none⟩)] 174)) rb s L k := h.kp hk0
  have hrl := h.lt'
  generalize hw0 : w.alloc (.cells #[.pointer (some ⟨rb, 0, none⟩)] 174) = w0 at *
  have a0 : w0.cell? ⟨w.heap.size, 0, none⟩ = some (.pointer (some ⟨rb, 0, none⟩)) := by simp [World.cell?, hc0]
  have HA : Hid _ := patatom hE h0
  have hcond : (isM L { data := #[110, 97, 109, 101] } k (-1) || isM L { data := #[110, 117, 109] } k (-1) || isM L { data := #[40] } k (-1)) = false := by rw [h1, h2, h3]; simp
  rw [hcond] at HA
  have HS : Hid _ := hS
  have HX : Hid (∀ w', Kp (fun _ => False) w0 w' → Calls Tryz.prog 81 #[.pointer (some ⟨rb, 0, none⟩)] w' fun e w'' => ThrS w' (tkAt L k).loc e w'') := fun w' hk => (by obtain ⟨kdx, e1, _⟩ := (h0.kp hk).ex; exact prr_any w' rb s _ kdx _ e1)
  clear h hcond hS h1 h2 h3 h0
  go_enter Tryz.func152, Tryz.ntmps152
  go_wp2_with fail
  refine Calls.mono HA.out ?_
  rintro e w1 ⟨rfl, hk1⟩
  have d0 := hk1.cell a0 (fun z => z)
  clear HA
  go_wp2_with fail
  refine Calls.mono (HX.out w1 hk1) ?_
  rintro e w2 ⟨b, he, hx1, hx2, hx3⟩
  rw [he]
  clear he
  go_wp2
  exact ⟨rfl, PRet.thr (ThrX.before (ThrX.of ⟨b, rfl, hx1, hx2, hx3⟩) (Kq.of_kp (hk0.trans hk1) (fun _ z => z.elim))) HS.out (by omega)⟩
end Go.Proofs.YtleenphlgbklmabGreatDoor
