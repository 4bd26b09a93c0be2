import Derived.Test.YtleenphlgbklmaaGreatDoorQPWa
import Derived.Test.YtleenphlgbklmaaGreatDoorQPDep
import Derived.Test.YtleenphlgbklmaaGreatDoorQPWb
set_option linter.unusedVariables false
set_option linter.unusedSimpArgs false
namespace Go.Proofs.YtleenphlgbklmaaGreatDoor
open Go.RowKit

set_option maxRecDepth 20000 in
set_option maxHeartbeats 1000000 in
theorem wx_all (x : X) : SWX x := by
  induction x using X.ind with
  | h op names kids loc ih =>
  intro v w P B b last bs h hW hlen
  cases h with
  | name n loc xb hWd hP hb => exact wx_name n loc _ w P B b last bs (.name n loc xb hWd hP hb) hW hlen
  | num n loc xb hWd hP hb => exact wx_num n loc _ w P B b last bs (.num n loc xb hWd hP hb) hW hlen
  | fn n x loc xb p hWd hP hb hx => exact wx_fn n x loc (ih x (by simp)) _ w P B b last bs (.fn n x loc xb p hWd hP hb hx) hW hlen
  | ite x y z loc xb p q r hP hb hx hy hz => exact wx_ite x y z loc (ih x (by simp)) (ih y (by simp)) (ih z (by simp)) _ w P B b last bs (.ite x y z loc xb p q r hP hb hx hy hz) hW hlen
  | lt n x y loc xb p q hWd hP hb hx hy => exact wx_let n x y loc (ih x (by simp)) (ih y (by simp)) _ w P B b last bs (.lt n x y loc xb p q hWd hP hb hx hy) hW hlen
  | app x y loc xb p q hP hb hx hy => exact wx_app x y loc (ih x (by simp)) (ih y (by simp)) _ w P B b last bs (.app x y loc xb p q hP hb hx hy) hW hlen
  | pair x y loc xb p q hP hb hx hy => exact wx_pair x y loc (ih x (by simp)) (ih y (by simp)) _ w P B b last bs (.pair x y loc xb p q hP hb hx hy) hW hlen
  | rc names kids y loc xb nv vv q ps hN hWd hP hb hn hv hnP hvP hl hl2 hk hy =>
    have htw : tw (.mk { data := #[114, 101, 99] } names (kids ++ [y]) loc) = (names.map fun s => s.size + 16).sum + (tws kids + (tw y + 16)) + 16 := by rw [tw, tws_append]
    rw [htw] at hlen
    have HR : Hid _ := wrec names kids y loc (fun x hx => ih x (by simp [hx])) (ih y (by simp)) w P B b xb last bs _ nv vv q ps hN hWd hb hn hv hl hl2 hk hy hW hlen
    have t0 := Tryz.xReNa (.pointer (some ⟨xb, 0, none⟩)) w
    have t1 := Tryz.xReNu (.pointer (some ⟨xb, 0, none⟩)) w
    have t2 := Tryz.xReFu (.pointer (some ⟨xb, 0, none⟩)) w
    have t3 := Tryz.xReIf (.pointer (some ⟨xb, 0, none⟩)) w
    have t4 := Tryz.xReLe (.pointer (some ⟨xb, 0, none⟩)) w
    have t5 := Tryz.xReRe (.pointer (some ⟨xb, 0, none⟩)) w
    clear hb hn hv hnP hvP hl hl2 hk hy hW ih htw hlen hN hWd
    go_enter Tryz.func100, Tryz.ntmps100
    go_wp2_with fail
    refine Calls.mono HR.out ?_
    rintro e w1 ⟨rfl, l1, o1, hW1, hk1⟩
    clear HR
    go_wp2
    go_end0
    exact ⟨rfl, l1, o1, hW1, hk1⟩
theorem wd_pos {n : ByteArray} (h : Wd n) : 0 < n.size := by
  have o := h.o
  unfold opn at o
  simp only [Bool.or_eq_false_iff] at o
  refine Nat.pos_of_ne_zero (fun z => ?_)
  have e : n = { data := #[] } := by
    apply bytes_ext
    have : n.data.size = 0 := z
    have e : n.data = #[] := Array.eq_empty_of_size_eq_zero this
    rw [e]
  rw [e] at o
  exact absurd o.1 (by decide)
theorem PX.pos {w : World} {P : Nat → Prop} {x : X} {v : Value} (h : PX w P x v) : 0 < (txt x).size := by
  cases h with
  | name n loc xb hWd hP hb => rw [txt_name]; exact wd_pos hWd
  | num n loc xb hWd hP hb => rw [txt_num]; exact wd_pos hWd
  | fn n x loc xb p hWd hP hb hx =>
    rw [txt_fn]
    have := wd_pos hWd
    simp only [ByteArray.size_append]
    omega
  | ite x y z loc xb p q r hP hb hx hy hz =>
    rw [txt_ite]
    simp only [ByteArray.size_append]
    have : ({ data := #[105, 102, 32] } : ByteArray).size = 3 := rfl
    omega
  | lt n x y loc xb p q hWd hP hb hx hy =>
    rw [txt_let]
    have := wd_pos hWd
    simp only [ByteArray.size_append]
    omega
  | app x y loc xb p q hP hb hx hy =>
    rw [txt_app]
    simp only [ByteArray.size_append]
    have : ({ data := #[32] } : ByteArray).size = 1 := rfl
    omega
  | pair x y loc xb p q hP hb hx hy =>
    rw [txt_pair]
    simp only [ByteArray.size_append]
    have : ({ data := #[40] } : ByteArray).size = 1 := rfl
    omega
  | rc names kids y loc xb nv vv q ps hN hWd hP hb hn hv hnP hvP hl hl2 hk hy =>
    rw [txt_rec _ _ _ _ hl2]
    simp only [ByteArray.size_append]
    have : ({ data := #[32, 105, 110, 32] } : ByteArray).size = 4 := rfl
    omega
set_option maxRecDepth 20000 in
set_option maxHeartbeats 1000000 in
theorem pshowx_any (w : World) (P : Nat → Prop) (x : X) (v : Value) (h : PX w P x v) (hs : tw x ≤ 1000000) :
    Calls Tryz.prog 70 #[v] w fun e w' => e = .returned (.string (txt x)) ∧ Below w.heap.size w w' := by
  obtain ⟨T, u, rfl⟩ := h.iface
  have hpos := h.pos
  have hkF : Kp (fun _ => False) w (w.alloc (.cells #[.pointer none, .slice none 0 0, .string { data := #[] }] 187)) := (Kp.refl _ w).alloc _
  have hT : BW 187 (w.alloc (.cells #[.pointer none, .slice none 0 0, .string { data := #[] }] 187)) w.heap.size w.heap.size (.string { data := #[] }) [] := ⟨Nat.le_refl _, _, _, .inl rfl, heap_alloc_new _ _, World.ownsRow_nil _ _ _ _, by simp [Value.ownBlock]⟩
  have HW : Hid _ := wx_all x (.iface T u) _ P w.heap.size w.heap.size { data := #[] } [] (h.kp hkF) hT (by simp; omega)
  have HS : Hid (∀ w' l, BW 187 w' w.heap.size w.heap.size (.string l) (Lib.byteCells (txt x).data.toList) → Calls Tryz.prog 101 #[.pointer (some ⟨w.heap.size, 0, none⟩)] w' fun e w'' => e = .returned (.string (txt x)) ∧ Below w.heap.size w' w'') := fun w' l hT' => (bstr_any 187 _ _ _ _ w' hT' (by
      intro z
      have : (txt x).data.size = 0 := by rw [← Array.length_toList, z]; rfl
      have e : (txt x).size = (txt x).data.size := rfl
      omega)).mono (fun e w'' ⟨h1, h2⟩ => ⟨by rw [h1], h2⟩)
  have hpe : pre { data := #[] } ++ txt x = txt x := by
    apply bytes_ext
    rw [pre_op rfl, bytes_app]
    simp
  rw [hpe, List.nil_append, Lib.strCells_eq] at HW
  clear hT hpos h hpe
  go_enter Tryz.func70, Tryz.ntmps70
  go_wp2_with (go_at_call 100; refine Calls.mono HW.out ?_; rintro e w2 ⟨rfl, l2, o2, hT2, hk2⟩)
  go_wp2_with (go_at_call 101; refine Calls.mono (HS.out w2 l2 hT2) ?_; rintro e w3 ⟨rfl, hb3⟩)
  go_ret
  have hK : Kp (fun q => w.heap.size ≤ q) w w2 := (hkF.mono (fun _ _ z => z.elim)).trans hk2.kp
  exact ⟨rfl, hb3.os.trans hK.os, hb3.tape.trans hK.tape, hb3.output.trans hK.output, Nat.le_trans hK.size hb3.size, fun q hq => (hb3.block q hq).trans (hK.block q hq (fun z => by omega))⟩
end Go.Proofs.YtleenphlgbklmaaGreatDoor
