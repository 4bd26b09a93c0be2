import Derived.Test.YtleenphlgbklmaaGreatDoorQPRdF
import Derived.Test.YtleenphlgbklmaaGreatDoorQPNmC
set_option linter.unusedVariables false
set_option linter.unusedSimpArgs false
namespace Go.Proofs.YtleenphlgbklmaaGreatDoor
open Go.RowKit

theorem PRet.lift {w w0 w' : World} {rb : Nat} {s : ByteArray} {L : List Tk} {k' : Nat} {bad' : Int} {e : Ending} {x : X} (hk : Kq (· = rb) w w0) (h : PRet (QX w0 x) w0 rb s L k' bad' e w') : PRet (QX w x) w rb s L k' bad' e w' := by
  refine ⟨fun q => ?_, fun q => (h.2 q).before hk⟩
  obtain ⟨h1, v, h2, h3, h4, h5⟩ := h.1 q
  exact ⟨h1, v, h2, h3.mono (fun b hb _ => Nat.le_trans hk.size hb), h4, hk.trans h5⟩
theorem PRet.ways {w w' : World} {rb : Nat} {s : ByteArray} {L : List Tk} {k' : Nat} {bad' : Int} {e : Ending} {x : X} (h : PRet (QX w x) w rb s L k' bad' e w') : (∃ T u, e = .returned (.iface T u)) ∨ (∃ b : Nat, e = thrown (.iface 134 (.pointer (some ⟨b, 0, none⟩)))) := by
  by_cases hz : 0 ≤ bz L k' bad'
  · obtain ⟨b, he, _⟩ := h.2 hz
    exact .inr ⟨b, he⟩
  · obtain ⟨_, v, he, hv, _⟩ := h.1 (by omega)
    obtain ⟨T, u, rfl⟩ := hv.iface
    exact .inl ⟨T, u, he⟩
set_option maxRecDepth 20000 in
set_option maxHeartbeats 1000000 in
theorem pexp_fun {s : ByteArray} {L : List Tk} (hE : PEnv s wordsL L) (w : World) (rb k : Nat) (h : PAt w rb s L k) (m0 : isM L { data := #[102, 117, 110] } k (-1) = true) (x : X) (k' : Nat) (bad' : Int)
    (hC : ∀ w1, PAt w1 rb s L k → Calls Tryz.prog 130 #[.agg #[.pointer (some ⟨rb, 0, none⟩)]] w1 fun e w' => PRet (QX w1 x) w1 rb s L k' bad' e w') :
    Calls Tryz.prog 97 #[.agg #[.pointer (some ⟨rb, 0, none⟩)]] w fun e w' => PRet (QX w x) w rb s L k' bad' e w' := by
  have hk0 : Kp (fun _ => False) w (w.alloc (.cells #[.pointer (some ⟨rb, 0, none⟩)] 178)) := (Kp.refl _ _).alloc _
  have hc0 : (w.alloc (.cells #[.pointer (some ⟨rb, 0, none⟩)] 178)).heap[w.heap.size]? = some (.cells #[.pointer (some ⟨rb, 0, none⟩)] 178 (0, 0)) := heap_alloc_new _ _
  have h0 : PAt (w.alloc (.cells #[.pointer (some ⟨rb, 0, none⟩)] 178)) rb s L k := h.kp hk0
  have hrl := h.lt'
  generalize hw0 : w.alloc (.cells #[.pointer (some ⟨rb, 0, none⟩)] 178) = w0 at *
  have a0 : w0.cell? ⟨w.heap.size, 0, none⟩ = some (.pointer (some ⟨rb, 0, none⟩)) := by simp [World.cell?, hc0]
  have HC : Hid _ := hC w0 h0
  have H0 : Hid _ := at_is hE h0 { data := #[102, 117, 110] } (.inl (by simp [wordsL]))
  rw [m0] at H0
  clear hC h h0 m0
  go_enter Tryz.func97, Tryz.ntmps97
  go_wp2_with fail
  refine Calls.mono H0.out ?_
  rintro e w' ⟨rfl, hww⟩
  rw [hww]
  clear hww w'
  go_wp2_with fail
  refine Calls.mono HC.out ?_
  intro e w1 hres
  rcases hres.ways with ⟨T, u, he⟩ | ⟨b, he⟩
  · rw [he] at hres ⊢
    have HR : Hid _ := hres
    clear hres HC
    go_wp2
    go_ret
    exact PRet.lift (Kq.of_kp hk0 (fun _ z => z.elim)) HR.out
  · rw [he] at hres ⊢
    have HR : Hid _ := hres
    clear hres HC
    go_wp2
    exact ⟨rfl, PRet.lift (Kq.of_kp hk0 (fun _ z => z.elim)) HR.out⟩
set_option maxRecDepth 20000 in
set_option maxHeartbeats 1000000 in
theorem pexp_if {s : ByteArray} {L : List Tk} (hE : PEnv s wordsL L) (w : World) (rb k : Nat) (h : PAt w rb s L k) (m0 : isM L { data := #[102, 117, 110] } k (-1) = false) (m1 : isM L { data := #[105, 102] } k (-1) = true) (x : X) (k' : Nat) (bad' : Int)
    (hC : ∀ w1, PAt w1 rb s L k → Calls Tryz.prog 131 #[.agg #[.pointer (some ⟨rb, 0, none⟩)]] w1 fun e w' => PRet (QX w1 x) w1 rb s L k' bad' e w') :
    Calls Tryz.prog 97 #[.agg #[.pointer (some ⟨rb, 0, none⟩)]] w fun e w' => PRet (QX w x) w rb s L k' bad' e w' := by
  have hk0 : Kp (fun _ => False) w (w.alloc (.cells #[.pointer (some ⟨rb, 0, none⟩)] 178)) := (Kp.refl _ _).alloc _
  have hc0 : (w.alloc (.cells #[.pointer (some ⟨rb, 0, none⟩)] 178)).heap[w.heap.size]? = some (.cells #[.pointer (some ⟨rb, 0, none⟩)] 178 (0, 0)) := heap_alloc_new _ _
  have h0 : PAt (w.alloc (.cells #[.pointer (some ⟨rb, 0, none⟩)] 178)) rb s L k := h.kp hk0
  have hrl := h.lt'
  generalize hw0 : w.alloc (.cells #[.pointer (some ⟨rb, 0, none⟩)] 178) = w0 at *
  have a0 : w0.cell? ⟨w.heap.size, 0, none⟩ = some (.pointer (some ⟨rb, 0, none⟩)) := by simp [World.cell?, hc0]
  have HC : Hid _ := hC w0 h0
  have H0 : Hid _ := at_is hE h0 { data := #[102, 117, 110] } (.inl (by simp [wordsL]))
  rw [m0] at H0
  have H1 : Hid _ := at_is hE h0 { data := #[105, 102] } (.inl (by simp [wordsL]))
  rw [m1] at H1
  clear hC h h0 m0 m1
  go_enter Tryz.func97, Tryz.ntmps97
  go_wp2_with fail
  refine Calls.mono H0.out ?_
  rintro e w' ⟨rfl, hww⟩
  rw [hww]
  clear hww w'
  go_wp2_with fail
  refine Calls.mono H1.out ?_
  rintro e w' ⟨rfl, hww⟩
  rw [hww]
  clear hww w'
  go_wp2_with fail
  refine Calls.mono HC.out ?_
  intro e w1 hres
  rcases hres.ways with ⟨T, u, he⟩ | ⟨b, he⟩
  · rw [he] at hres ⊢
    have HR : Hid _ := hres
    clear hres HC
    go_wp2
    go_ret
    exact PRet.lift (Kq.of_kp hk0 (fun _ z => z.elim)) HR.out
  · rw [he] at hres ⊢
    have HR : Hid _ := hres
    clear hres HC
    go_wp2
    exact ⟨rfl, PRet.lift (Kq.of_kp hk0 (fun _ z => z.elim)) HR.out⟩
set_option maxRecDepth 20000 in
set_option maxHeartbeats 1000000 in
theorem pexp_let {s : ByteArray} {L : List Tk} (hE : PEnv s wordsL L) (w : World) (rb k : Nat) (h : PAt w rb s L k) (m0 : isM L { data := #[102, 117, 110] } k (-1) = false) (m1 : isM L { data := #[105, 102] } k (-1) = false) (m2 : isM L { data := #[108, 101, 116] } k (-1) = true) (x : X) (k' : Nat) (bad' : Int)
    (hC : ∀ w1, PAt w1 rb s L k → Calls Tryz.prog 132 #[.agg #[.pointer (some ⟨rb, 0, none⟩)]] w1 fun e w' => PRet (QX w1 x) w1 rb s L k' bad' e w') :
    Calls Tryz.prog 97 #[.agg #[.pointer (some ⟨rb, 0, none⟩)]] w fun e w' => PRet (QX w x) w rb s L k' bad' e w' := by
  have hk0 : Kp (fun _ => False) w (w.alloc (.cells #[.pointer (some ⟨rb, 0, none⟩)] 178)) := (Kp.refl _ _).alloc _
  have hc0 : (w.alloc (.cells #[.pointer (some ⟨rb, 0, none⟩)] 178)).heap[w.heap.size]? = some (.cells #[.pointer (some ⟨rb, 0, none⟩)] 178 (0, 0)) := heap_alloc_new _ _
  have h0 : PAt (w.alloc (.cells #[.pointer (some ⟨rb, 0, none⟩)] 178)) rb s L k := h.kp hk0
  have hrl := h.lt'
  generalize hw0 : w.alloc (.cells #[.pointer (some ⟨rb, 0, none⟩)] 178) = w0 at *
  have a0 : w0.cell? ⟨w.heap.size, 0, none⟩ = some (.pointer (some ⟨rb, 0, none⟩)) := by simp [World.cell?, hc0]
  have HC : Hid _ := hC w0 h0
  have H0 : Hid _ := at_is hE h0 { data := #[102, 117, 110] } (.inl (by simp [wordsL]))
  rw [m0] at H0
  have H1 : Hid _ := at_is hE h0 { data := #[105, 102] } (.inl (by simp [wordsL]))
  rw [m1] at H1
  have H2 : Hid _ := at_is hE h0 { data := #[108, 101, 116] } (.inl (by simp [wordsL]))
  rw [m2] at H2
  clear hC h h0 m0 m1 m2
  go_enter Tryz.func97, Tryz.ntmps97
  go_wp2_with fail
  refine Calls.mono H0.out ?_
  rintro e w' ⟨rfl, hww⟩
  rw [hww]
  clear hww w'
  go_wp2_with fail
  refine Calls.mono H1.out ?_
  rintro e w' ⟨rfl, hww⟩
  rw [hww]
  clear hww w'
  go_wp2_with fail
  refine Calls.mono H2.out ?_
  rintro e w' ⟨rfl, hww⟩
  rw [hww]
  clear hww w'
  go_wp2_with fail
  refine Calls.mono HC.out ?_
  intro e w1 hres
  rcases hres.ways with ⟨T, u, he⟩ | ⟨b, he⟩
  · rw [he] at hres ⊢
    have HR : Hid _ := hres
    clear hres HC
    go_wp2
    go_ret
    exact PRet.lift (Kq.of_kp hk0 (fun _ z => z.elim)) HR.out
  · rw [he] at hres ⊢
    have HR : Hid _ := hres
    clear hres HC
    go_wp2
    exact ⟨rfl, PRet.lift (Kq.of_kp hk0 (fun _ z => z.elim)) HR.out⟩
set_option maxRecDepth 20000 in
set_option maxHeartbeats 1000000 in
theorem pexp_atoms {s : ByteArray} {L : List Tk} (hE : PEnv s wordsL L) (w : World) (rb k : Nat) (h : PAt w rb s L k) (m0 : isM L { data := #[102, 117, 110] } k (-1) = false) (m1 : isM L { data := #[105, 102] } k (-1) = false) (m2 : isM L { data := #[108, 101, 116] } k (-1) = false) (x : X) (k' : Nat) (bad' : Int)
    (hC : ∀ w1, PAt w1 rb s L k → Calls Tryz.prog 133 #[.agg #[.pointer (some ⟨rb, 0, none⟩)]] w1 fun e w' => PRet (QX w1 x) w1 rb s L k' bad' e w') :
    Calls Tryz.prog 97 #[.agg #[.pointer (some ⟨rb, 0, none⟩)]] w fun e w' => PRet (QX w x) w rb s L k' bad' e w' := by
  have hk0 : Kp (fun _ => False) w (w.alloc (.cells #[.pointer (some ⟨rb, 0, none⟩)] 178)) := (Kp.refl _ _).alloc _
  have hc0 : (w.alloc (.cells #[.pointer (some ⟨rb, 0, none⟩)] 178)).heap[w.heap.size]? = some (.cells #[.pointer (some ⟨rb, 0, none⟩)] 178 (0, 0)) := heap_alloc_new _ _
  have h0 : PAt (w.alloc (.cells #[.pointer (some ⟨rb, 0, none⟩)] 178)) rb s L k := h.kp hk0
  have hrl := h.lt'
  generalize hw0 : w.alloc (.cells #[.pointer (some ⟨rb, 0, none⟩)] 178) = w0 at *
  have a0 : w0.cell? ⟨w.heap.size, 0, none⟩ = some (.pointer (some ⟨rb, 0, none⟩)) := by simp [World.cell?, hc0]
  have HC : Hid _ := hC w0 h0
  have H0 : Hid _ := at_is hE h0 { data := #[102, 117, 110] } (.inl (by simp [wordsL]))
  rw [m0] at H0
  have H1 : Hid _ := at_is hE h0 { data := #[105, 102] } (.inl (by simp [wordsL]))
  rw [m1] at H1
  have H2 : Hid _ := at_is hE h0 { data := #[108, 101, 116] } (.inl (by simp [wordsL]))
  rw [m2] at H2
  clear hC h h0 m0 m1 m2
  go_enter Tryz.func97, Tryz.ntmps97
  go_wp2_with fail
  refine Calls.mono H0.out ?_
  rintro e w' ⟨rfl, hww⟩
  rw [hww]
  clear hww w'
  go_wp2_with fail
  refine Calls.mono H1.out ?_
  rintro e w' ⟨rfl, hww⟩
  rw [hww]
  clear hww w'
  go_wp2_with fail
  refine Calls.mono H2.out ?_
  rintro e w' ⟨rfl, hww⟩
  rw [hww]
  clear hww w'
  go_wp2_with fail
  refine Calls.mono HC.out ?_
  intro e w1 hres
  rcases hres.ways with ⟨T, u, he⟩ | ⟨b, he⟩
  · rw [he] at hres ⊢
    have HR : Hid _ := hres
    clear hres HC
    go_wp2
    go_ret
    exact PRet.lift (Kq.of_kp hk0 (fun _ z => z.elim)) HR.out
  · rw [he] at hres ⊢
    have HR : Hid _ := hres
    clear hres HC
    go_wp2
    exact ⟨rfl, PRet.lift (Kq.of_kp hk0 (fun _ z => z.elim)) HR.out⟩
set_option maxRecDepth 20000 in
set_option maxHeartbeats 1000000 in
theorem plrec_any {s : ByteArray} {L : List Tk} (hE : PEnv s wordsL L) (w : World) (rb k : Nat) (h : PAt w rb s L k) (hM : isM L { data := #[108, 101, 116] } k (-1) = true) (hR : isM L { data := #[114, 101, 99] } (k + 1) (-1) = true) (x : X) (k' : Nat) (bad' : Int) (hS : 0 ≤ bz L (k + 1) (-1) → bz L k' bad' = bz L (k + 1) (-1))
    (hC : ∀ w1, PAt w1 rb s L (k + 1) → Calls Tryz.prog 176 #[.agg #[.pointer (some ⟨rb, 0, none⟩)]] w1 fun e w' => PRet (QX w1 x) w1 rb s L k' bad' e w') :
    Calls Tryz.prog 132 #[.agg #[.pointer (some ⟨rb, 0, none⟩)]] w fun e w' => PRet (QX w x) w rb s L k' bad' e w' := by
  have hk0 : Kp (fun _ => False) w (w.alloc (.cells #[.pointer (some ⟨rb, 0, none⟩)] 178)) := (Kp.refl _ _).alloc _
  have hc0 : (w.alloc (.cells #[.pointer (some ⟨rb, 0, none⟩)] 178)).heap[w.heap.size]? = some (.cells #[.pointer (some ⟨rb, 0, none⟩)] 178 (0, 0)) := heap_alloc_new _ _
  have h0 : PAt (w.alloc (.cells #[.pointer (some ⟨rb, 0, none⟩)] 178)) rb s L k := h.kp hk0
  have hrl := h.lt'
  generalize hw0 : w.alloc (.cells #[.pointer (some ⟨rb, 0, none⟩)] 178) = w0 at *
  have a0 : w0.cell? ⟨w.heap.size, 0, none⟩ = some (.pointer (some ⟨rb, 0, none⟩)) := by simp [World.cell?, hc0]
  have C1 := px_expect hE h0 { data := #[108, 101, 116] } (.inl (by simp [wordsL])) (by decide) (by decide)
  rw [(need_true hM).1, (need_true hM).2] at C1
  have HC1 : Hid _ := C1
  have HS : Hid _ := hS
  have HCC : Hid _ := hC
  have HRR : Hid _ := hR
  clear hC h C1 hM hS hR
  go_enter Tryz.func132, Tryz.ntmps132
  go_wp2_with fail
  refine Calls.mono HC1.out ?_
  intro e w2 hres
  clear HC1
  by_cases hz : 0 ≤ bz L (k + 1) (-1)
  · obtain ⟨b, he, hx⟩ := hres.2 hz
    rw [he]
    clear he hres
    go_wp2
    exact ⟨rfl, PRet.up (Kq.of_kp hk0 (fun _ z => z.elim)) hz HS.out ⟨b, rfl, hx⟩⟩
  obtain ⟨_, v, he, hv, P2, kq⟩ := hres.1 (by omega)
  clear hz hres
  subst hv
  subst he
  have KK := (Kq.of_kp (S := (· = rb)) hk0 (fun _ z => z.elim)).trans kq
  have hc2 := (kq.block _ (lt_of_block hc0) (by show ¬ _; omega)).trans hc0
  have a2 : w2.cell? ⟨w.heap.size, 0, none⟩ = some (.pointer (some ⟨rb, 0, none⟩)) := by simp [World.cell?, hc2]
  have HI : Hid _ := at_is hE P2 { data := #[114, 101, 99] } (.inl (by simp [wordsL]))
  rw [HRR.out] at HI
  have HC : Hid _ := HCC.out w2 P2
  clear kq P2 HCC
  go_wp2_with fail
  refine Calls.mono HI.out ?_
  rintro e w' ⟨rfl, hww⟩
  rw [hww]
  clear hww w'
  go_wp2_with fail
  refine Calls.mono HC.out ?_
  intro e w1 hres
  rcases hres.ways with ⟨T, u, he⟩ | ⟨b, he⟩
  · rw [he] at hres ⊢
    have HR : Hid _ := hres
    clear hres HC
    go_wp2
    go_ret
    exact PRet.lift KK HR.out
  · rw [he] at hres ⊢
    have HR : Hid _ := hres
    clear hres HC
    go_wp2
    exact ⟨rfl, PRet.lift KK HR.out⟩
end Go.Proofs.YtleenphlgbklmaaGreatDoor

namespace Go.Proofs.YtleenphlgbklmaaGreatDoor
open Go.RowKit

/-- the program's reader of expressions does what the document's does. -/
theorem pread_all {s : ByteArray} {L : List Tk} (hE : PEnv s wordsL L) : ∀ n, SE s L n ∧ SA s L n := by
  intro n
  induction n using Nat.strongRecOn with
  | ind n ih =>
  cases n with
  | zero => exact ⟨fun w rb k x k' bad' _ h => by simp [expM] at h, fun w rb k x k' bad' _ h => by simp [atomM] at h⟩
  | succ n =>
  have hA := (ih n (by omega)).1
  refine ⟨?_, ?_⟩
  · intro w rb k x k' bad' h hM
    rw [expM, if_neg (by omega)] at hM
    cases hF : isM L { data := #[102, 117, 110] } k (-1)
    · simp only [hF, Bool.false_eq_true, if_false] at hM
      cases hI : isM L { data := #[105, 102] } k (-1)
      · simp only [hI, Bool.false_eq_true, if_false] at hM
        cases hL : isM L { data := #[108, 101, 116] } k (-1)
        · simp only [hL, Bool.false_eq_true, if_false] at hM
          obtain ⟨⟨x1, k1, b1⟩, h1, h2⟩ := Option.bind_eq_some_iff.1 hM
          exact pexp_atoms hE w rb k h hF hI hL x k' bad' (fun w1 p1 => patoms_any hE n (fun m hm => (ih m (by omega)).2) w1 rb k p1 x1 x k1 k' b1 bad' h1 h2)
        · simp only [hL, if_true] at hM
          cases hR : isM L { data := #[114, 101, 99] } (k + 1) (-1)
          · simp only [hR, Bool.false_eq_true, if_false] at hM
            obtain ⟨⟨ns, ks, k1, b1⟩, h1, h2⟩ := Option.bind_eq_some_iff.1 hM
            obtain ⟨⟨y, k2, b2⟩, h3, h4⟩ := Option.bind_eq_some_iff.1 h2
            simp only [Option.some.injEq, Prod.mk.injEq] at h4
            obtain ⟨rfl, rfl, rfl⟩ := h4
            cases n with
            | zero => simp [boundM] at h1
            | succ m =>
              simp only [boundM] at h1
              have e : dupB [] (tkAt L (k + 1)).s (tkAt L (k + 1)).loc (needB L { data := #[110, 97, 109, 101] } (k + 1) (-1)) = needB L { data := #[110, 97, 109, 101] } (k + 1) (-1) := by simp [dupB]
              rw [e] at h1
              obtain ⟨⟨x1, k3, b3⟩, h5, h6⟩ := Option.bind_eq_some_iff.1 h1
              simp only [Option.some.injEq, Prod.mk.injEq] at h6
              obtain ⟨rfl, rfl, rfl, rfl⟩ := h6
              exact pexp_let hE w rb k h hF hI hL _ _ _ (fun w1 p1 => plet_any hE (m + 1) m hA (ih m (by omega)).1 w1 rb k p1 hL hR x1 y k3 k2 b3 b2 h5 h3)
          · simp only [hR, if_true] at hM
            obtain ⟨⟨ns, ks, k1, b1⟩, h1, h2⟩ := Option.bind_eq_some_iff.1 hM
            obtain ⟨⟨ns2, ks2, k2, b2⟩, h3, h4⟩ := Option.bind_eq_some_iff.1 h2
            obtain ⟨⟨y, k3, b3⟩, h5, h6⟩ := Option.bind_eq_some_iff.1 h4
            simp only [Option.some.injEq, Prod.mk.injEq] at h6
            obtain ⟨rfl, rfl, rfl⟩ := h6
            refine pexp_let hE w rb k h hF hI hL _ _ _ (fun w1 p1 => plrec_any hE w1 rb k p1 hL hR _ _ _ (fun hz => ?_) (fun w2 p2 => prec_any hE n (fun m hm => (ih m (by omega)).1) w2 rb (k + 1) p2 hR ns ns2 ks ks2 y k1 k2 k3 b1 b2 b3 _ h1 h3 h5))
            rw [isM_bz hz (by decide)] at hR
            cases hR
      · simp only [hI, if_true] at hM
        obtain ⟨⟨x1, k1, b1⟩, h1, h2⟩ := Option.bind_eq_some_iff.1 hM
        obtain ⟨⟨x2, k2, b2⟩, h3, h4⟩ := Option.bind_eq_some_iff.1 h2
        obtain ⟨⟨x3, k3, b3⟩, h5, h6⟩ := Option.bind_eq_some_iff.1 h4
        simp only [Option.some.injEq, Prod.mk.injEq] at h6
        obtain ⟨rfl, rfl, rfl⟩ := h6
        exact pexp_if hE w rb k h hF hI _ _ _ (fun w1 p1 => pif_any hE n hA w1 rb k p1 hI x1 x2 x3 k1 k2 k3 b1 b2 b3 h1 h3 h5)
    · simp only [hF, if_true] at hM
      obtain ⟨⟨x1, k1, b1⟩, h1, h2⟩ := Option.bind_eq_some_iff.1 hM
      simp only [Option.some.injEq, Prod.mk.injEq] at h2
      obtain ⟨rfl, rfl, rfl⟩ := h2
      exact pexp_fun hE w rb k h hF _ _ _ (fun w1 p1 => pfun_any hE n hA w1 rb k p1 hF x1 k1 b1 h1)
  · intro w rb k x k' bad' h hM
    rw [atomM] at hM
    cases hN : isM L { data := #[110, 97, 109, 101] } k (-1)
    · cases hU : isM L { data := #[110, 117, 109] } k (-1)
      · simp only [hN, hU, Bool.or_false, Bool.false_eq_true, if_false] at hM
        obtain ⟨⟨x1, k1, b1⟩, h1, h2⟩ := Option.bind_eq_some_iff.1 hM
        simp only at h2
        cases hO : isM L { data := #[40] } k (-1)
        · rw [(need_false hO).1, (need_false hO).2] at h1
          have z0 : bz L k ((tkAt L k).loc : Int) = (tkAt L k).loc := bz_ge (by omega)
          have z1 := (stk L n).ex _ _ _ _ _ h1 (by rw [z0]; omega)
          rw [z0] at z1
          have hz1 : 0 ≤ bz L k1 b1 := by rw [z1]; omega
          rw [isM_bz hz1 (by decide)] at h2
          simp only [Bool.false_eq_true, if_false, Option.some.injEq, Prod.mk.injEq] at h2
          obtain ⟨rfl, rfl, rfl⟩ := h2
          exact patom_bad hE w rb k h hN hU hO _ _ _ ((need_bz' hz1 (by decide)).trans z1)
        · rw [(need_true hO).1, (need_true hO).2] at h1
          cases hC : isM L { data := #[44] } k1 b1
          · simp only [hC, Bool.false_eq_true, if_false, Option.some.injEq, Prod.mk.injEq] at h2
            obtain ⟨rfl, rfl, rfl⟩ := h2
            exact patom_br hE w rb k h hO _ _ _ (sticks (fun hz => (stk L n).ex _ _ _ _ _ h1 hz) (fun hz => need_bz' hz (by decide))) (fun w1 p1 => pbr1_any hE n hA w1 rb (k + 1) p1 x1 k1 b1 h1 hC)
          · simp only [hC, if_true] at h2
            obtain ⟨⟨x2, k2, b2⟩, h3, h4⟩ := Option.bind_eq_some_iff.1 h2
            simp only [Option.some.injEq, Prod.mk.injEq] at h4
            obtain ⟨rfl, rfl, rfl⟩ := h4
            refine patom_br hE w rb k h hO _ _ _ (fun hz => ?_) (fun w1 p1 => pbr2_any hE n hA w1 rb (k + 1) _ p1 x1 x2 k1 k2 b1 b2 h1 hC h3)
            have z1 := (stk L n).ex _ _ _ _ _ h1 hz
            rw [isM_bz (by rw [z1]; exact hz) (by decide)] at hC
            cases hC
      · simp only [hN, hU, Bool.false_or, if_true, Option.some.injEq, Prod.mk.injEq] at hM
        obtain ⟨rfl, rfl, rfl⟩ := hM
        rw [is_name hU]
        exact patom_num hE w rb k h hU
    · simp only [hN, Bool.true_or, if_true, Option.some.injEq, Prod.mk.injEq] at hM
      obtain ⟨rfl, rfl, rfl⟩ := hM
      rw [is_name hN]
      exact patom_name hE w rb k h hN
end Go.Proofs.YtleenphlgbklmaaGreatDoor

namespace Go.Proofs.YtleenphlgbklmaaGreatDoor
open Go.RowKit

theorem tk_end {s : ByteArray} {kws : List ByteArray} {L : List Tk} (hE : PEnv s kws L) {k kd0 : Nat} (hk : k < L.length) (hT : pTok s (tkAt L k).loc = some (kd0, (tkAt L k).s, (tkAt L k).loc + (tkAt L k).s.size)) : (kd0 == 0) = sameS (tkAt L k).is { data := #[101, 110, 100] } := by
  have l := (tk_link hE.kw hE.eq k hk).2
  generalize tkAt L k = t at *
  cases l with
  | fin a b c d e =>
    rw [d] at hT
    simp only [Option.some.injEq, Prod.mk.injEq] at hT
    rw [← hT.1, b, (sameS_iff _ _).2 rfl]
    rfl
  | bad a b => rw [b] at hT; cases hT
  | word a b c d =>
    rw [c] at hT
    simp only [Option.some.injEq, Prod.mk.injEq] at hT
    rw [← hT.1, d]
    split
    · rename_i q
      rw [sameS_f (hE.kw.ne _ (kwIn_mem q)).2.2.1]
      rfl
    · rw [sameS_f (ne_of_list (by decide))]
      rfl
  | num a b c d e =>
    rw [d] at hT
    simp only [Option.some.injEq, Prod.mk.injEq] at hT
    rw [← hT.1, e, sameS_f (ne_of_list (by decide))]
    rfl
  | sign a b c d e f =>
    rw [d] at hT
    simp only [Option.some.injEq, Prod.mk.injEq] at hT
    have h1 : t.is ≠ { data := #[101, 110, 100] } := by
      rw [e]
      rcases f with f | ⟨_, f, _⟩
      · rw [f]; exact ne_of_list (by decide)
      · rw [f]
        intro q
        have q := congrArg (fun x => x.size) q
        have q : (1 : Nat) = 3 := q
        omega
    rw [← hT.1, sameS_f h1]
    rfl
theorem Kept.kp {w w' : World} (h : Kp (fun _ => False) w w') : Kept w w' := ⟨h.os, h.output, h.size, fun q hq => h.block q hq (fun z => z)⟩
/-- all that lay there is as it was (of what else the world holds nothing is said). -/
structure XK (w w' : World) : Prop where
  size : w.heap.size ≤ w'.heap.size
  block : ∀ k, k < w.heap.size → w'.heap[k]? = w.heap[k]?
end Go.Proofs.YtleenphlgbklmaaGreatDoor
