import Derived.Test.YtleenphlgbklmaaGreatDoorQPNmC
import Derived.Test.YtleenphlgbklmaaGreatDoorQPDep
import Derived.Test.YtleenphlgbklmaaGreatDoorQRefGood
import Derived.Test.YtleenphlgbklmaaGreatDoorQWTake
set_option linter.unusedVariables false
set_option linter.unusedSimpArgs false
namespace Go.Proofs.YtleenphlgbklmaaGreatDoor
open Go.RowKit

theorem dp_tw (x : X) : dp x ≤ tw x := by
  induction x using X.ind with
  | h op names kids loc ih =>
    have h : ∀ ks : List X, (∀ y, y ∈ ks → dp y ≤ tw y) → dps ks ≤ tws ks := by
      intro ks
      induction ks with
      | nil => intro _; simp [dps]
      | cons y ys ihy =>
        intro h
        have h1 := h y (by simp)
        have h2 := ihy (fun z hz => h z (by simp [hz]))
        simp only [dps, tws]
        omega
    have := h kids ih
    simp only [dp, tw]
    omega
theorem PX.kq {w w' : World} {P : Nat → Prop} {x : X} {v : Value} {rb : Nat} (h : PX w P x v) (hP : ∀ b, P b → b ≠ rb) (hk : Kq (· = rb) w w') : PX w' P x v := h.keep (fun b hb hl => hk.block b hl (fun z => hP b hb z))
/-- an expression that was read: all of it is new. -/
def QX (w0 : World) (x : X) : World → Value → Prop := fun w' v => PX w' (fun b => w0.heap.size ≤ b) x v
def SE (s : ByteArray) (L : List Tk) (n : Nat) : Prop := ∀ (w : World) (rb k : Nat) (x : X) (k' : Nat) (bad' : Int), PAt w rb s L k → expM L n k (-1) = some (x, k', bad') →
  Calls Tryz.prog 97 #[.agg #[.pointer (some ⟨rb, 0, none⟩)]] w fun e w' => PRet (QX w x) w rb s L k' bad' e w'
def SA (s : ByteArray) (L : List Tk) (n : Nat) : Prop := ∀ (w : World) (rb k : Nat) (x : X) (k' : Nat) (bad' : Int), PAt w rb s L k → atomM L n k (-1) = some (x, k', bad') →
  Calls Tryz.prog 177 #[.agg #[.pointer (some ⟨rb, 0, none⟩)]] w fun e w' => PRet (QX w x) w rb s L k' bad' e w'
theorem PRet.up {Q : World → Value → Prop} {w w1 w' : World} {rb : Nat} {s : ByteArray} {L : List Tk} {k1 k' : Nat} {b1 bad' : Int} {e : Ending} (hK : Kq (· = rb) w w1) (hz : 0 ≤ bz L k1 b1) (hF : 0 ≤ bz L k1 b1 → bz L k' bad' = bz L k1 b1) (h : ThrX w1 rb (bz L k1 b1) e w') : PRet Q w rb s L k' bad' e w' := PRet.thr (h.before hK) (hF hz) hz
theorem sticks {L : List Tk} {k0 k1 k' : Nat} {b0 b1 b' : Int} (S : 0 ≤ bz L k0 b0 → bz L k1 b1 = bz L k0 b0) (F : 0 ≤ bz L k1 b1 → bz L k' b' = bz L k1 b1) : 0 ≤ bz L k0 b0 → bz L k' b' = bz L k0 b0 := fun hz => (F (by rw [S hz]; exact hz)).trans (S hz)
/-- the text's bounds. -/
structure PB (L : List Tk) : Prop where
  len : L.length ≤ 301
  sz : ∀ k, (tkAt L k).s.size ≤ 300
theorem PEnv.pb {s : ByteArray} {kws : List ByteArray} {L : List Tk} (h : PEnv s kws L) : PB L := by
  have h1 := h.sz
  refine ⟨?_, fun k => ?_⟩
  · rw [h.eq]
    have := toks_len s kws (s.size + 1) 0
    omega
  · rw [h.eq]
    have := toks_size s kws (s.size + 1) 0 k
    omega
theorem PB.dp {L : List Tk} (h : PB L) {n k : Nat} {bad : Int} {x : X} {k' : Nat} {b' : Int} (hM : expM L n k bad = some (x, k', b')) (hb : b' < 0) (hk : k' < L.length) : Go.Proofs.YtleenphlgbklmaaGreatDoor.dp x ≤ 200000 := by
  have h1 := (made L h.sz n).e _ _ _ _ _ hM hb
  have h2 := dp_tw x
  have := h.len
  omega
theorem pnewname0 {s : ByteArray} {L : List Tk} (hE : PEnv s wordsL L) {w : World} {rb k : Nat} (h : PAt w rb s L k) :
    Calls Tryz.prog 174 #[.agg #[.pointer (some ⟨rb, 0, none⟩)], .slice none 0 0] w fun e w' => PRet (fun _ v => v = .string (tkAt L k).s ∧ Wd (tkAt L k).s) w rb s L (takeK L { data := #[110, 97, 109, 101] } k (-1)) (needB L { data := #[110, 97, 109, 101] } k (-1)) e w' := by
  have := pnewname hE h [] (.slice none 0 0) (World.ownsRow_nil _ _ _ _)
  have e : dupB [] (tkAt L k).s (tkAt L k).loc (needB L { data := #[110, 97, 109, 101] } k (-1)) = needB L { data := #[110, 97, 109, 101] } k (-1) := by simp [dupB]
  rw [e] at this
  exact this
theorem above1 {w : World} {P : Nat → Prop} {x : X} {T : TypeId} {u : Value} (hx : PX w P x (.iface T u)) (hd : dp x ≤ 200000) :
    Calls Tryz.prog 175 #[.slice (some ⟨w.heap.size, 0, none⟩) 1 1] (w.alloc (.cells #[.iface T u] 130)) fun e w' => e = .returned (.agg #[.int .i64 (dp x + 1 : Nat)]) ∧ Kp (fun _ => False) w w' := by
  have hk : Kp (fun _ => False) w (w.alloc (.cells #[.iface T u] 130)) := (Kp.refl _ _).alloc _
  have hc : (w.alloc (.cells #[.iface T u] 130)).heap[w.heap.size]? = some (.cells #[.iface T u] 130 (0, 0)) := heap_alloc_new _ _
  have := above_any [x] [.iface T u] w.heap.size 1 (w.alloc (.cells #[.iface T u] 130)) P rfl (by
    intro j hj
    have : j = 0 := by simpa using hj
    subst this
    simp only [World.cell?, hc]
    rfl) (by
    intro j y p h1 h2
    match j, h1, h2 with
    | 0, h1, h2 => simp at h1 h2; subst h1; subst h2; exact hx.kp hk) (by simp) (by simp [dps]; omega)
  refine this.mono ?_
  rintro e w' ⟨rfl, hk2⟩
  exact ⟨by simp [dps], hk.trans hk2⟩
theorem above2 {w : World} {P : Nat → Prop} {x y : X} {T T2 : TypeId} {u u2 : Value} (hx : PX w P x (.iface T u)) (hy : PX w P y (.iface T2 u2)) (hd : dp x ≤ 200000) (hd2 : dp y ≤ 200000) :
    Calls Tryz.prog 175 #[.slice (some ⟨w.heap.size, 0, none⟩) 2 2] (w.alloc (.cells #[.iface T u, .iface T2 u2] 130)) fun e w' => e = .returned (.agg #[.int .i64 (max (dp x) (dp y) + 1 : Nat)]) ∧ Kp (fun _ => False) w w' := by
  have hk : Kp (fun _ => False) w (w.alloc (.cells #[.iface T u, .iface T2 u2] 130)) := (Kp.refl _ _).alloc _
  have hc : (w.alloc (.cells #[.iface T u, .iface T2 u2] 130)).heap[w.heap.size]? = some (.cells #[.iface T u, .iface T2 u2] 130 (0, 0)) := heap_alloc_new _ _
  have := above_any [x, y] [.iface T u, .iface T2 u2] w.heap.size 2 (w.alloc (.cells #[.iface T u, .iface T2 u2] 130)) P rfl (by
    intro j hj
    match j, hj with
    | 0, _ => simp only [World.cell?, hc]; rfl
    | 1, _ => simp only [World.cell?, hc]; rfl) (by
    intro j z p h1 h2
    match j, h1, h2 with
    | 0, h1, h2 => simp at h1 h2; subst h1; subst h2; exact hx.kp hk
    | 1, h1, h2 => simp at h1 h2; subst h1; subst h2; exact hy.kp hk) (by simp) (by simp [dps]; omega)
  refine this.mono ?_
  rintro e w' ⟨rfl, hk2⟩
  exact ⟨by simp [dps], hk.trans hk2⟩
theorem above3 {w : World} {P : Nat → Prop} {x y z : X} {T T2 T3 : TypeId} {u u2 u3 : Value} (hx : PX w P x (.iface T u)) (hy : PX w P y (.iface T2 u2)) (hz : PX w P z (.iface T3 u3)) (hd : dp x ≤ 200000) (hd2 : dp y ≤ 200000) (hd3 : dp z ≤ 200000) :
    Calls Tryz.prog 175 #[.slice (some ⟨w.heap.size, 0, none⟩) 3 3] (w.alloc (.cells #[.iface T u, .iface T2 u2, .iface T3 u3] 130)) fun e w' => e = .returned (.agg #[.int .i64 (max (dp x) (max (dp y) (dp z)) + 1 : Nat)]) ∧ Kp (fun _ => False) w w' := by
  have hk : Kp (fun _ => False) w (w.alloc (.cells #[.iface T u, .iface T2 u2, .iface T3 u3] 130)) := (Kp.refl _ _).alloc _
  have hc : (w.alloc (.cells #[.iface T u, .iface T2 u2, .iface T3 u3] 130)).heap[w.heap.size]? = some (.cells #[.iface T u, .iface T2 u2, .iface T3 u3] 130 (0, 0)) := heap_alloc_new _ _
  have := above_any [x, y, z] [.iface T u, .iface T2 u2, .iface T3 u3] w.heap.size 3 (w.alloc (.cells #[.iface T u, .iface T2 u2, .iface T3 u3] 130)) P rfl (by
    intro j hj
    match j, hj with
    | 0, _ => simp only [World.cell?, hc]; rfl
    | 1, _ => simp only [World.cell?, hc]; rfl
    | 2, _ => simp only [World.cell?, hc]; rfl) (by
    intro j t p h1 h2
    match j, h1, h2 with
    | 0, h1, h2 => simp at h1 h2; subst h1; subst h2; exact hx.kp hk
    | 1, h1, h2 => simp at h1 h2; subst h1; subst h2; exact hy.kp hk
    | 2, h1, h2 => simp at h1 h2; subst h1; subst h2; exact hz.kp hk) (by simp) (by simp [dps]; omega)
  refine this.mono ?_
  rintro e w' ⟨rfl, hk2⟩
  exact ⟨by simp [dps], hk.trans hk2⟩
end Go.Proofs.YtleenphlgbklmaaGreatDoor
