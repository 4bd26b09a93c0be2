import Derived.Test.YtleenphlgbklmabGreatDoorZPRdB
set_option linter.unusedVariables false
set_option linter.unusedSimpArgs false
namespace Go.Proofs.YtleenphlgbklmabGreatDoor
open Go.RowKit

set_option maxRecDepth 20000 in
set_option maxHeartbeats 1000000 in
theorem plet_any {s : ByteArray} {L : List Tk} (hE : PEnv s wordsL L) (n m : Nat) (hA : SE s L n) (hA2 : SE s L m) (w : World) (rb k : Nat) (h : PAt w rb s L k) (hM : isM L { data := #[108, 101, 116] } k (-1) = true) (hR : isM L { data := #[114, 101, 99] } (k + 1) (-1) = false) (x y : X) (K4 K6 : Nat) (B4 B6 : Int)
    (hX : expM L m (takeK L { data := #[61] } (takeK L { data := #[110, 97, 109, 101] } (k + 1) (-1)) (needB L { data := #[110, 97, 109, 101] } (k + 1) (-1))) (needB L { data := #[61] } (takeK L { data := #[110, 97, 109, 101] } (k + 1) (-1)) (needB L { data := #[110, 97, 109, 101] } (k + 1) (-1))) = some (x, K4, B4))
    (hY : expM L n (takeK L { data := #[105, 110] } K4 B4) (needB L { data := #[105, 110] } K4 B4) = some (y, K6, B6)) :
    Calls Tryz.prog 110 #[.agg #[.pointer (some ⟨rb, 0, none⟩)]] w fun e w' => PRet (QX w (.mk { data := #[108, 101, 116] } [(tkAt L (k + 1)).s] [x, y] (tkAt L k).loc)) w rb s L K6 B6 e w' := by
  obtain ⟨K0, B0, hK0, hB0⟩ : ∃ K0, ∃ B0 : Int, K0 = k ∧ B0 = -1 := ⟨_, _, rfl, rfl⟩
  obtain ⟨K1, eK1⟩ : ∃ K, takeK L { data := #[108, 101, 116] } K0 B0 = K := ⟨_, rfl⟩
  obtain ⟨B1, eB1⟩ : ∃ B, needB L { data := #[108, 101, 116] } K0 B0 = B := ⟨_, rfl⟩
  have q1 : K1 = k + 1 ∧ B1 = -1 := by rw [← eK1, ← eB1, hK0, hB0]; exact need_true hM
  rw [← q1.1, ← q1.2] at hX
  rw [← q1.1] at hR
  obtain ⟨K2, eK2⟩ : ∃ K, takeK L { data := #[110, 97, 109, 101] } K1 B1 = K := ⟨_, rfl⟩
  obtain ⟨B2, eB2⟩ : ∃ B, needB L { data := #[110, 97, 109, 101] } K1 B1 = B := ⟨_, rfl⟩
  rw [eK2, eB2] at hX
  obtain ⟨K3, eK3⟩ : ∃ K, takeK L { data := #[61] } K2 B2 = K := ⟨_, rfl⟩
  obtain ⟨B3, eB3⟩ : ∃ B, needB L { data := #[61] } K2 B2 = B := ⟨_, rfl⟩
  rw [eK3, eB3] at hX
  obtain ⟨K5, eK5⟩ : ∃ K, takeK L { data := #[105, 110] } K4 B4 = K := ⟨_, rfl⟩
  obtain ⟨B5, eB5⟩ : ∃ B, needB L { data := #[105, 110] } K4 B4 = B := ⟨_, rfl⟩
  rw [eK5, eB5] at hY
  have M4 := hX
  have M6 := hY
  have HX1 : Hid (B4 < 0 → K4 < L.length → dp x ≤ 200000) := fun h1 h2 => hE.pb.dp hX h1 h2
  have HX2 : Hid (B6 < 0 → K6 < L.length → dp y ≤ 200000) := fun h1 h2 => hE.pb.dp hY h1 h2
  have HR : Hid _ := hR
  clear hX hY hR
  rw [← q1.1]
  clear q1
  have S6 : 0 ≤ bz L K5 B5 → bz L K6 B6 = bz L K5 B5 := fun hz => (stk L n).ex _ _ _ _ _ M6 hz
  have S5 : 0 ≤ bz L K4 B4 → bz L K5 B5 = bz L K4 B4 := fun hz => by rw [← eK5, ← eB5]; exact need_bz' hz (by decide)
  have S4 : 0 ≤ bz L K3 B3 → bz L K4 B4 = bz L K3 B3 := fun hz => (stk L m).ex _ _ _ _ _ M4 hz
  have S3 : 0 ≤ bz L K2 B2 → bz L K3 B3 = bz L K2 B2 := fun hz => by rw [← eK3, ← eB3]; exact need_bz' hz (by decide)
  have S2 : 0 ≤ bz L K1 B1 → bz L K2 B2 = bz L K1 B1 := fun hz => by rw [← eK2, ← eB2]; exact need_bz' hz (by decide)
  have S1 : 0 ≤ bz L K0 B0 → bz L K1 B1 = bz L K0 B0 := fun hz => by rw [← eK1, ← eB1]; exact need_bz' hz (by decide)
  have F5 : Hid (0 ≤ bz L K5 B5 → bz L K6 B6 = bz L K5 B5) := S6
  have F4 : Hid (0 ≤ bz L K4 B4 → bz L K6 B6 = bz L K4 B4) := sticks S5 F5.out
  have F3 : Hid (0 ≤ bz L K3 B3 → bz L K6 B6 = bz L K3 B3) := sticks S4 F4.out
  have F2 : Hid (0 ≤ bz L K2 B2 → bz L K6 B6 = bz L K2 B2) := sticks S3 F3.out
  have F1 : Hid (0 ≤ bz L K1 B1 → bz L K6 B6 = bz L K1 B1) := sticks S2 F2.out
  clear S1 S2 S3 S4 S5 S6
  have EK1 : Hid _ := eK1
  have EB1 : Hid _ := eB1
  clear eK1 eB1
  have EK2 : Hid _ := eK2
  have EB2 : Hid _ := eB2
  clear eK2 eB2
  have EK3 : Hid _ := eK3
  have EB3 : Hid _ := eB3
  clear eK3 eB3
  have HM4 : Hid _ := M4
  clear M4
  have EK5 : Hid _ := eK5
  have EB5 : Hid _ := eB5
  clear eK5 eB5
  have HM6 : Hid _ := M6
  clear M6
  rw [← hK0] at h ⊢
  subst hB0
  clear hK0 hM
  have hk0 : Kp (fun _ => False) w (w.alloc (.cells #[.pointer (some ⟨rb, 0, none⟩)] 174)) := (Kp.refl _ _).alloc _
  have hc0 : (w.alloc (.cells #[.pointer (some ⟨rb, 0, none⟩)] 174)).heap[w.heap.size]? = some (.cells #[.pointer (some ⟨rb, 0, none⟩)] 174 (0, 0)) := heap_alloc_new _ _
  have h0 : PAt (w.alloc (.cells #[.pointer (some ⟨rb, 0, none⟩)] 174)) rb s L K0 := h.kp hk0
  have hrl := h.lt'
  generalize hw0 : w.alloc (.cells #[.pointer (some ⟨rb, 0, none⟩)] 174) = w0 at *
  have a0 : w0.cell? ⟨w.heap.size, 0, none⟩ = some (.pointer (some ⟨rb, 0, none⟩)) := by simp [World.cell?, hc0]
  go_enter Tryz.func110, Tryz.ntmps110
  have C1 := px_expect hE h0 { data := #[108, 101, 116] } (.inl (by simp [wordsL])) (by decide) (by decide)
  rw [EK1.out, EB1.out] at C1
  have HC1 : Hid _ := C1
  clear C1
  go_wp2_with fail
  refine Calls.mono HC1.out ?_
  intro e w2p hres
  clear HC1
  by_cases hz : 0 ≤ bz L K1 B1
  · obtain ⟨b, he, hx⟩ := hres.2 hz
    rw [he]
    clear he hres
    go_wp2
    exact ⟨rfl, PRet.up (Kq.of_kp hk0 (fun _ z => z.elim)) hz F1.out ⟨b, rfl, hx⟩⟩
  obtain ⟨hb, v, he, hv, P1, kq⟩ := hres.1 (by omega)
  clear hz hres
  have KK1 := (Kq.of_kp hk0 (fun _ z => z.elim)).trans kq
  have hc1p := (kq.block _ (lt_of_block hc0) (by show ¬ _; omega)).trans hc0
  have a1p : w2p.cell? ⟨w.heap.size, 0, none⟩ = some (.pointer (some ⟨rb, 0, none⟩)) := by simp [World.cell?, hc1p]
  subst hv
  subst he
  subst hb
  have HI : Hid _ := at_is hE P1 { data := #[114, 101, 99] } (.inl (by simp [wordsL]))
  rw [HR.out] at HI
  go_wp2_with fail
  refine Calls.mono HI.out ?_
  rintro e w' ⟨rfl, hww⟩
  rw [hww]
  clear hww w' HI
  have C2 := pnewname0 hE P1
  rw [EK2.out, EB2.out] at C2
  have HC2 : Hid _ := C2
  clear C2
  go_wp2_with fail
  refine Calls.mono HC2.out ?_
  intro e w3p hres
  clear HC2
  by_cases hz : 0 ≤ bz L K2 B2
  · obtain ⟨b, he, hx⟩ := hres.2 hz
    rw [he]
    clear he hres
    go_wp2
    exact ⟨rfl, PRet.up KK1 hz F2.out ⟨b, rfl, hx⟩⟩
  obtain ⟨hb, v, he, hv, P2, kq⟩ := hres.1 (by omega)
  clear hz hres
  have KK2 := KK1.trans kq
  have hc2p := (kq.block _ (lt_of_block hc1p) (by show ¬ _; omega)).trans hc1p
  have a2p : w3p.cell? ⟨w.heap.size, 0, none⟩ = some (.pointer (some ⟨rb, 0, none⟩)) := by simp [World.cell?, hc2p]
  obtain ⟨hv, hWd⟩ := hv
  subst hv
  subst he
  subst hb
  have C3 := px_expect hE P2 { data := #[61] } (.inr (.inr ⟨61, rfl, rfl⟩)) (by decide) (by decide)
  rw [EK3.out, EB3.out] at C3
  have HC3 : Hid _ := C3
  clear C3
  go_wp2_with fail
  refine Calls.mono HC3.out ?_
  intro e w4p hres
  clear HC3
  by_cases hz : 0 ≤ bz L K3 B3
  · obtain ⟨b, he, hx⟩ := hres.2 hz
    rw [he]
    clear he hres
    go_wp2
    exact ⟨rfl, PRet.up KK2 hz F3.out ⟨b, rfl, hx⟩⟩
  obtain ⟨hb, v, he, hv, P3, kq⟩ := hres.1 (by omega)
  clear hz hres
  have KK3 := KK2.trans kq
  have hc3p := (kq.block _ (lt_of_block hc2p) (by show ¬ _; omega)).trans hc2p
  have a3p : w4p.cell? ⟨w.heap.size, 0, none⟩ = some (.pointer (some ⟨rb, 0, none⟩)) := by simp [World.cell?, hc3p]
  subst hv
  subst he
  subst hb
  have C4 := hA2 _ _ _ _ _ _ P3 HM4.out
  have HC4 : Hid _ := C4
  clear C4
  go_wp2_with fail
  refine Calls.mono HC4.out ?_
  intro e w5p hres
  clear HC4
  by_cases hz : 0 ≤ bz L K4 B4
  · obtain ⟨b, he, hx⟩ := hres.2 hz
    rw [he]
    clear he hres
    go_wp2
    exact ⟨rfl, PRet.up KK3 hz F4.out ⟨b, rfl, hx⟩⟩
  obtain ⟨hb, v, he, hv, P4, kq⟩ := hres.1 (by omega)
  clear hz hres
  have KK4 := KK3.trans kq
  have hc4p := (kq.block _ (lt_of_block hc3p) (by show ¬ _; omega)).trans hc3p
  have a4p : w5p.cell? ⟨w.heap.size, 0, none⟩ = some (.pointer (some ⟨rb, 0, none⟩)) := by simp [World.cell?, hc4p]
  have X4 : PX w5p (fun b => w.heap.size ≤ b) _ v := hv.mono (fun b h1 _ => Nat.le_trans KK3.size h1)
  obtain ⟨T4, u4, rfl⟩ := hv.iface
  subst he
  clear hv
  subst hb
  have C5 := px_expect hE P4 { data := #[105, 110] } (.inl (by simp [wordsL])) (by decide) (by decide)
  rw [EK5.out, EB5.out] at C5
  have HC5 : Hid _ := C5
  clear C5
  go_wp2_with fail
  refine Calls.mono HC5.out ?_
  intro e w6p hres
  clear HC5
  by_cases hz : 0 ≤ bz L K5 B5
  · obtain ⟨b, he, hx⟩ := hres.2 hz
    rw [he]
    clear he hres
    go_wp2
    exact ⟨rfl, PRet.up KK4 hz F5.out ⟨b, rfl, hx⟩⟩
  obtain ⟨hb, v, he, hv, P5, kq⟩ := hres.1 (by omega)
  clear hz hres
  have KK5 := KK4.trans kq
  have hc5p := (kq.block _ (lt_of_block hc4p) (by show ¬ _; omega)).trans hc4p
  have a5p : w6p.cell? ⟨w.heap.size, 0, none⟩ = some (.pointer (some ⟨rb, 0, none⟩)) := by simp [World.cell?, hc5p]
  subst hv
  subst he
  have X4 := X4.kq (fun b h1 => by have h1 : w.heap.size ≤ b := h1; omega) kq
  subst hb
  have C6 := hA _ _ _ _ _ _ P5 HM6.out
  have HC6 : Hid _ := C6
  clear C6
  go_wp2_with fail
  refine Calls.mono HC6.out ?_
  intro e w7p hres
  clear HC6
  by_cases hz : 0 ≤ bz L K6 B6
  · obtain ⟨b, he, hx⟩ := hres.2 hz
    rw [he]
    clear he hres
    go_wp2
    exact ⟨rfl, PRet.up KK5 hz (fun _ => rfl) ⟨b, rfl, hx⟩⟩
  obtain ⟨hb, v, he, hv, P6, kq⟩ := hres.1 (by omega)
  clear hz hres
  have KK6 := KK5.trans kq
  have hc6p := (kq.block _ (lt_of_block hc5p) (by show ¬ _; omega)).trans hc5p
  have a6p : w7p.cell? ⟨w.heap.size, 0, none⟩ = some (.pointer (some ⟨rb, 0, none⟩)) := by simp [World.cell?, hc6p]
  have X6 : PX w7p (fun b => w.heap.size ≤ b) _ v := hv.mono (fun b h1 _ => Nat.le_trans KK5.size h1)
  obtain ⟨T6, u6, rfl⟩ := hv.iface
  subst he
  clear hv
  have X4 := X4.kq (fun b h1 => by have h1 : w.heap.size ≤ b := h1; omega) kq
  subst hb
  have hdx := HX1.out (by omega) P4.lt
  have hdy := HX2.out (by omega) P6.lt
  have HB : Hid _ := above2 X4 X6 hdx hdy
  go_wp2_with fail
  refine Calls.mono HB.out ?_
  rintro e wfp ⟨rfl, hkf⟩
  have KF := KK6.trans (Kq.of_kp (S := (· = rb)) hkf (fun _ z => z.elim))
  have Y4 := X4.kp hkf
  have Y6 := X6.kp hkf
  have PF := P6.kp hkf
  have hkg : Kp (fun _ => False) wfp (wfp.alloc (.cells #[.int .i64 (max (dp x) (dp y) + 1 : Nat), .string (tkAt L K1).s, .iface T4 u4, .iface T6 u6] 249)) := (Kp.refl _ _).alloc _
  have hbg : (wfp.alloc (.cells #[.int .i64 (max (dp x) (dp y) + 1 : Nat), .string (tkAt L K1).s, .iface T4 u4, .iface T6 u6] 249)).heap[wfp.heap.size]? = some (.cells #[.int .i64 (max (dp x) (dp y) + 1 : Nat), .string (tkAt L K1).s, .iface T4 u4, .iface T6 u6] 249 (0, 0)) := heap_alloc_new _ _
  have FX : Hid (PRet (QX w (.mk { data := #[108, 101, 116] } [(tkAt L K1).s] [x, y] (tkAt L K0).loc)) w rb s L K6 (-1) (.returned (.iface 247 (.pointer (some ⟨wfp.heap.size, 0, none⟩)))) (wfp.alloc (.cells #[.int .i64 (max (dp x) (dp y) + 1 : Nat), .string (tkAt L K1).s, .iface T4 u4, .iface T6 u6] 249))) := PRet.ret (Q := QX w (.mk { data := #[108, 101, 116] } [(tkAt L K1).s] [x, y] (tkAt L K0).loc)) (PX.lt _ _ _ _ _ _ _ hWd KF.size hbg (Y4.kp hkg) (Y6.kp hkg)) (PF.kp hkg) (KF.trans (Kq.of_kp (S := (· = rb)) hkg (fun _ z => z.elim)))
  clear HB hkg hbg
  go_wp2
  go_ret
  exact FX.out
set_option maxRecDepth 20000 in
set_option maxHeartbeats 1000000 in
theorem pbr1_any {s : ByteArray} {L : List Tk} (hE : PEnv s wordsL L) (n : Nat) (hA : SE s L n) (w : World) (rb k : Nat) (h : PAt w rb s L k) (x : X) (K1 : Nat) (B1 : Int)
    (hX : expM L n k (-1) = some (x, K1, B1)) (hR : isM L { data := #[44] } K1 B1 = false) :
    Calls Tryz.prog 170 #[.agg #[.pointer (some ⟨rb, 0, none⟩)]] w fun e w' => PRet (QX w x) w rb s L (takeK L { data := #[41] } K1 B1) (needB L { data := #[41] } K1 B1) e w' := by
  obtain ⟨K0, B0, hK0, hB0⟩ : ∃ K0, ∃ B0 : Int, K0 = k ∧ B0 = -1 := ⟨_, _, rfl, rfl⟩
  rw [← hK0, ← hB0] at hX
  obtain ⟨K2, eK2⟩ : ∃ K, takeK L { data := #[41] } K1 B1 = K := ⟨_, rfl⟩
  obtain ⟨B2, eB2⟩ : ∃ B, needB L { data := #[41] } K1 B1 = B := ⟨_, rfl⟩
  rw [eK2, eB2]
  have M1 := hX
  have HR : Hid _ := hR
  clear hX hR
  have S2 : 0 ≤ bz L K1 B1 → bz L K2 B2 = bz L K1 B1 := fun hz => by rw [← eK2, ← eB2]; exact need_bz' hz (by decide)
  have S1 : 0 ≤ bz L K0 B0 → bz L K1 B1 = bz L K0 B0 := fun hz => (stk L n).ex _ _ _ _ _ M1 hz
  have F1 : Hid (0 ≤ bz L K1 B1 → bz L K2 B2 = bz L K1 B1) := S2
  clear S1 S2
  have HM1 : Hid _ := M1
  clear M1
  have EK2 : Hid _ := eK2
  have EB2 : Hid _ := eB2
  clear eK2 eB2
  rw [← hK0] at h
  subst hB0
  clear hK0
  have hk0 : Kp (fun _ => False) w (w.alloc (.cells #[.pointer (some ⟨rb, 0, none⟩)] 174)) := (Kp.refl _ _).alloc _
  have hc0 : (w.alloc (.cells #[.pointer (some ⟨rb, 0, none⟩)] 174)).heap[w.heap.size]? = some (.cells #[.pointer (some ⟨rb, 0, none⟩)] 174 (0, 0)) := heap_alloc_new _ _
  have h0 : PAt (w.alloc (.cells #[.pointer (some ⟨rb, 0, none⟩)] 174)) rb s L K0 := h.kp hk0
  have hrl := h.lt'
  generalize hw0 : w.alloc (.cells #[.pointer (some ⟨rb, 0, none⟩)] 174) = w0 at *
  have a0 : w0.cell? ⟨w.heap.size, 0, none⟩ = some (.pointer (some ⟨rb, 0, none⟩)) := by simp [World.cell?, hc0]
  go_enter Tryz.func170, Tryz.ntmps170
  have C1 := hA _ _ _ _ _ _ h0 HM1.out
  have HC1 : Hid _ := C1
  clear C1
  go_wp2_with fail
  refine Calls.mono HC1.out ?_
  intro e w2p hres
  clear HC1
  by_cases hz : 0 ≤ bz L K1 B1
  · obtain ⟨b, he, hx⟩ := hres.2 hz
    rw [he]
    clear he hres
    go_wp2
    exact ⟨rfl, PRet.up (Kq.of_kp hk0 (fun _ z => z.elim)) hz F1.out ⟨b, rfl, hx⟩⟩
  obtain ⟨hb, v, he, hv, P1, kq⟩ := hres.1 (by omega)
  clear hz hres
  have KK1 := (Kq.of_kp hk0 (fun _ z => z.elim)).trans kq
  have hc1p := (kq.block _ (lt_of_block hc0) (by show ¬ _; omega)).trans hc0
  have a1p : w2p.cell? ⟨w.heap.size, 0, none⟩ = some (.pointer (some ⟨rb, 0, none⟩)) := by simp [World.cell?, hc1p]
  have X1 : PX w2p (fun b => w.heap.size ≤ b) _ v := hv.mono (fun b h1 _ => Nat.le_trans hk0.size h1)
  obtain ⟨T1, u1, rfl⟩ := hv.iface
  subst he
  clear hv
  subst hb
  have HI : Hid _ := at_is hE P1 { data := #[44] } (.inr (.inr ⟨44, rfl, rfl⟩))
  rw [HR.out] at HI
  go_wp2_with fail
  refine Calls.mono HI.out ?_
  rintro e w' ⟨rfl, hww⟩
  rw [hww]
  clear hww w' HI
  have C2 := px_expect hE P1 { data := #[41] } (.inr (.inr ⟨41, rfl, rfl⟩)) (by decide) (by decide)
  rw [EK2.out, EB2.out] at C2
  have HC2 : Hid _ := C2
  clear C2
  go_wp2_with fail
  refine Calls.mono HC2.out ?_
  intro e w3p hres
  clear HC2
  by_cases hz : 0 ≤ bz L K2 B2
  · obtain ⟨b, he, hx⟩ := hres.2 hz
    rw [he]
    clear he hres
    go_wp2
    exact ⟨rfl, PRet.up KK1 hz (fun _ => rfl) ⟨b, rfl, hx⟩⟩
  obtain ⟨hb, v, he, hv, P2, kq⟩ := hres.1 (by omega)
  clear hz hres
  have KK2 := KK1.trans kq
  have hc2p := (kq.block _ (lt_of_block hc1p) (by show ¬ _; omega)).trans hc1p
  have a2p : w3p.cell? ⟨w.heap.size, 0, none⟩ = some (.pointer (some ⟨rb, 0, none⟩)) := by simp [World.cell?, hc2p]
  subst hv
  subst he
  have X1 := X1.kq (fun b h1 => by have h1 : w.heap.size ≤ b := h1; omega) kq
  subst hb
  have FX : Hid (PRet (QX w x) w rb s L K2 (-1) (.returned (.iface T1 u1)) w3p) := PRet.ret (Q := QX w x) X1 P2 KK2
  go_wp2
  go_ret
  exact FX.out
set_option maxRecDepth 20000 in
set_option maxHeartbeats 1000000 in
theorem pbr2_any {s : ByteArray} {L : List Tk} (hE : PEnv s wordsL L) (n : Nat) (hA : SE s L n) (w : World) (rb k pl : Nat) (h : PAt w rb s L k) (x y : X) (K1 K3 : Nat) (B1 B3 : Int)
    (hX : expM L n k (-1) = some (x, K1, B1)) (hC : isM L { data := #[44] } K1 B1 = true) (hY : expM L n (K1 + 1) B1 = some (y, K3, B3)) :
    Calls Tryz.prog 170 #[.agg #[.pointer (some ⟨rb, 0, none⟩)]] w fun e w' => PRet (QX w (.mk { data := #[112, 97, 105, 114] } [] [x, y] pl)) w rb s L (takeK L { data := #[41] } K3 B3) (needB L { data := #[41] } K3 B3) e w' := by
  obtain ⟨K0, B0, hK0, hB0⟩ : ∃ K0, ∃ B0 : Int, K0 = k ∧ B0 = -1 := ⟨_, _, rfl, rfl⟩
  rw [← hK0, ← hB0] at hX
  obtain ⟨K2, eK2⟩ : ∃ K, K1 + 1 = K := ⟨_, rfl⟩
  obtain ⟨B2, eB2⟩ : ∃ B, B1 = B := ⟨_, rfl⟩
  rw [eK2, eB2] at hY
  obtain ⟨K4, eK4⟩ : ∃ K, takeK L { data := #[41] } K3 B3 = K := ⟨_, rfl⟩
  obtain ⟨B4, eB4⟩ : ∃ B, needB L { data := #[41] } K3 B3 = B := ⟨_, rfl⟩
  rw [eK4, eB4]
  have M1 := hX
  have M3 := hY
  have HX1 : Hid (B1 < 0 → K1 < L.length → dp x ≤ 200000) := fun h1 h2 => hE.pb.dp hX h1 h2
  have HX2 : Hid (B3 < 0 → K3 < L.length → dp y ≤ 200000) := fun h1 h2 => hE.pb.dp hY h1 h2
  clear hX hY
  have S4 : 0 ≤ bz L K3 B3 → bz L K4 B4 = bz L K3 B3 := fun hz => by rw [← eK4, ← eB4]; exact need_bz' hz (by decide)
  have S3 : 0 ≤ bz L K2 B2 → bz L K3 B3 = bz L K2 B2 := fun hz => (stk L n).ex _ _ _ _ _ M3 hz
  have S2 : 0 ≤ bz L K1 B1 → bz L K2 B2 = bz L K1 B1 := fun hz => absurd hC (by rw [isM_bz hz (by decide)]; simp)
  have S1 : 0 ≤ bz L K0 B0 → bz L K1 B1 = bz L K0 B0 := fun hz => (stk L n).ex _ _ _ _ _ M1 hz
  have F3 : Hid (0 ≤ bz L K3 B3 → bz L K4 B4 = bz L K3 B3) := S4
  have F2 : Hid (0 ≤ bz L K2 B2 → bz L K4 B4 = bz L K2 B2) := sticks S3 F3.out
  have F1 : Hid (0 ≤ bz L K1 B1 → bz L K4 B4 = bz L K1 B1) := sticks S2 F2.out
  clear S1 S2 S3 S4
  have HM1 : Hid _ := M1
  clear M1
  have EK2 : Hid _ := eK2
  have EB2 : Hid _ := eB2
  have HV2 : Hid _ := hC
  clear eK2 eB2 hC
  have HM3 : Hid _ := M3
  clear M3
  have EK4 : Hid _ := eK4
  have EB4 : Hid _ := eB4
  clear eK4 eB4
  rw [← hK0] at h
  subst hB0
  clear hK0
  have hk0 : Kp (fun _ => False) w (w.alloc (.cells #[.pointer (some ⟨rb, 0, none⟩)] 174)) := (Kp.refl _ _).alloc _
  have hc0 : (w.alloc (.cells #[.pointer (some ⟨rb, 0, none⟩)] 174)).heap[w.heap.size]? = some (.cells #[.pointer (some ⟨rb, 0, none⟩)] 174 (0, 0)) := heap_alloc_new _ _
  have h0 : PAt (w.alloc (.cells #[.pointer (some ⟨rb, 0, none⟩)] 174)) rb s L K0 := h.kp hk0
  have hrl := h.lt'
  generalize hw0 : w.alloc (.cells #[.pointer (some ⟨rb, 0, none⟩)] 174) = w0 at *
  have a0 : w0.cell? ⟨w.heap.size, 0, none⟩ = some (.pointer (some ⟨rb, 0, none⟩)) := by simp [World.cell?, hc0]
  go_enter Tryz.func170, Tryz.ntmps170
  have C1 := hA _ _ _ _ _ _ h0 HM1.out
  have HC1 : Hid _ := C1
  clear C1
  go_wp2_with fail
  refine Calls.mono HC1.out ?_
  intro e w2p hres
  clear HC1
  by_cases hz : 0 ≤ bz L K1 B1
  · obtain ⟨b, he, hx⟩ := hres.2 hz
    rw [he]
    clear he hres
    go_wp2
    exact ⟨rfl, PRet.up (Kq.of_kp hk0 (fun _ z => z.elim)) hz F1.out ⟨b, rfl, hx⟩⟩
  obtain ⟨hb, v, he, hv, P1, kq⟩ := hres.1 (by omega)
  clear hz hres
  have KK1 := (Kq.of_kp hk0 (fun _ z => z.elim)).trans kq
  have hc1p := (kq.block _ (lt_of_block hc0) (by show ¬ _; omega)).trans hc0
  have a1p : w2p.cell? ⟨w.heap.size, 0, none⟩ = some (.pointer (some ⟨rb, 0, none⟩)) := by simp [World.cell?, hc1p]
  have X1 : PX w2p (fun b => w.heap.size ≤ b) _ v := hv.mono (fun b h1 _ => Nat.le_trans hk0.size h1)
  obtain ⟨T1, u1, rfl⟩ := hv.iface
  subst he
  clear hv
  subst hb
  have HI : Hid _ := at_is hE P1 { data := #[44] } (.inr (.inr ⟨44, rfl, rfl⟩))
  rw [HV2.out] at HI
  go_wp2_with fail
  refine Calls.mono HI.out ?_
  rintro e w' ⟨rfl, hww⟩
  rw [hww]
  clear hww w' HI
  have C2 := px_adv hE P1 (isM_lt hE.good P1.lt HV2.out (by decide) (by decide))
  rw [EK2.out, EB2.out] at C2
  have HC2 : Hid _ := C2
  clear C2
  go_wp2_with fail
  refine Calls.mono HC2.out ?_
  intro e w3p hres
  clear HC2
  by_cases hz : 0 ≤ bz L K2 B2
  · obtain ⟨b, he, hx⟩ := hres.2 hz
    rw [he]
    clear he hres
    go_wp2
    exact ⟨rfl, PRet.up KK1 hz F2.out ⟨b, rfl, hx⟩⟩
  obtain ⟨hb, v, he, hv, P2, kq⟩ := hres.1 (by omega)
  clear hz hres
  have KK2 := KK1.trans kq
  have hc2p := (kq.block _ (lt_of_block hc1p) (by show ¬ _; omega)).trans hc1p
  have a2p : w3p.cell? ⟨w.heap.size, 0, none⟩ = some (.pointer (some ⟨rb, 0, none⟩)) := by simp [World.cell?, hc2p]
  subst hv
  subst he
  have X1 := X1.kq (fun b h1 => by have h1 : w.heap.size ≤ b := h1; omega) kq
  subst hb
  have C3 := hA _ _ _ _ _ _ P2 HM3.out
  have HC3 : Hid _ := C3
  clear C3
  go_wp2_with fail
  refine Calls.mono HC3.out ?_
  intro e w4p hres
  clear HC3
  by_cases hz : 0 ≤ bz L K3 B3
  · obtain ⟨b, he, hx⟩ := hres.2 hz
    rw [he]
    clear he hres
    go_wp2
    exact ⟨rfl, PRet.up KK2 hz F3.out ⟨b, rfl, hx⟩⟩
  obtain ⟨hb, v, he, hv, P3, kq⟩ := hres.1 (by omega)
  clear hz hres
  have KK3 := KK2.trans kq
  have hc3p := (kq.block _ (lt_of_block hc2p) (by show ¬ _; omega)).trans hc2p
  have a3p : w4p.cell? ⟨w.heap.size, 0, none⟩ = some (.pointer (some ⟨rb, 0, none⟩)) := by simp [World.cell?, hc3p]
  have X3 : PX w4p (fun b => w.heap.size ≤ b) _ v := hv.mono (fun b h1 _ => Nat.le_trans KK2.size h1)
  obtain ⟨T3, u3, rfl⟩ := hv.iface
  subst he
  clear hv
  have X1 := X1.kq (fun b h1 => by have h1 : w.heap.size ≤ b := h1; omega) kq
  subst hb
  have hdx := HX1.out (by omega) P1.lt
  have hdy := HX2.out (by omega) P3.lt
  have HB : Hid _ := above2 X1 X3 hdx hdy
  go_wp2_with fail
  refine Calls.mono HB.out ?_
  rintro e wfp ⟨rfl, hkf⟩
  have KF := KK3.trans (Kq.of_kp (S := (· = rb)) hkf (fun _ z => z.elim))
  have Y1 := X1.kp hkf
  have Y3 := X3.kp hkf
  have PF := P3.kp hkf
  have hcf := hkf.blk hc3p (fun z => z)
  have hkg : Kp (fun _ => False) wfp (wfp.alloc (.cells #[.int .i64 (((max (dp x) (dp y) : Nat) : Int) + 1), .iface T1 u1, .iface T3 u3] 257)) := (Kp.refl _ _).alloc _
  have hbg : (wfp.alloc (.cells #[.int .i64 (((max (dp x) (dp y) : Nat) : Int) + 1), .iface T1 u1, .iface T3 u3] 257)).heap[wfp.heap.size]? = some (.cells #[.int .i64 (((max (dp x) (dp y) : Nat) : Int) + 1), .iface T1 u1, .iface T3 u3] 257 (0, 0)) := heap_alloc_new _ _
  have hcg := hkg.blk hcf (fun z => z)
  have PG := PF.kp hkg
  have KG := KF.trans (Kq.of_kp (S := (· = rb)) hkg (fun _ z => z.elim))
  have XG : PX (wfp.alloc (.cells #[.int .i64 (((max (dp x) (dp y) : Nat) : Int) + 1), .iface T1 u1, .iface T3 u3] 257)) (fun b => w.heap.size ≤ b) (.mk { data := #[112, 97, 105, 114] } [] [x, y] pl) (.iface 255 (.pointer (some ⟨wfp.heap.size, 0, none⟩))) := PX.pair _ _ _ _ _ _ KF.size hbg (Y1.kp hkg) (Y3.kp hkg)
  have C4 := px_expect hE PG { data := #[41] } (.inr (.inr ⟨41, rfl, rfl⟩)) (by decide) (by decide)
  rw [EK4.out, EB4.out] at C4
  clear HB hkg hbg
  generalize hwg : wfp.alloc (.cells #[.int .i64 (((max (dp x) (dp y) : Nat) : Int) + 1), .iface T1 u1, .iface T3 u3] 257) = wg at *
  have HC4 : Hid _ := C4
  have ag : wg.cell? ⟨w.heap.size, 0, none⟩ = some (.pointer (some ⟨rb, 0, none⟩)) := by simp [World.cell?, hcg]
  clear C4
  go_wp2_with fail
  refine Calls.mono HC4.out ?_
  intro e w5p hres
  clear HC4
  by_cases hz : 0 ≤ bz L K4 B4
  · obtain ⟨b, he, hx⟩ := hres.2 hz
    rw [he]
    clear he hres
    go_wp2
    exact ⟨rfl, PRet.up KG hz (fun _ => rfl) ⟨b, rfl, hx⟩⟩
  obtain ⟨hb, v, he, hv, P4, kq⟩ := hres.1 (by omega)
  clear hz hres
  subst hv
  subst he
  subst hb
  have FX : Hid (PRet (QX w (.mk { data := #[112, 97, 105, 114] } [] [x, y] pl)) w rb s L K4 (-1) (.returned (.iface 255 (.pointer (some ⟨wfp.heap.size, 0, none⟩)))) w5p) := PRet.ret (Q := QX w (.mk { data := #[112, 97, 105, 114] } [] [x, y] pl)) (XG.kq (fun b h1 => by have h1 : w.heap.size ≤ b := h1; omega) kq) P4 (KG.trans kq)
  go_wp2
  go_ret
  exact FX.out
end Go.Proofs.YtleenphlgbklmabGreatDoor
