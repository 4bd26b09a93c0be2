import Derived.Test.YtleenphlgbklmabGreatDoorXPWz
set_option linter.unusedVariables false
set_option linter.unusedSimpArgs false
namespace Go.Proofs.YtleenphlgbklmabGreatDoor
open Go.RowKit

set_option maxRecDepth 20000 in
set_option maxHeartbeats 1000000 in
theorem wx_app (x y : X) (loc : Nat) (ihx : SWX x) (ihy : SWX y) : SWX (.mk { data := #[97, 112, 112] } [] [x, y] loc) := by
  intro v w P B b last bs h hW hlen
  have htw : tw (.mk { data := #[97, 112, 112] } [] [x, y] loc) = (tw x + 16 + (tw y + 16)) + 16 := by simp [tw, tws]
  rw [htw] at hlen
  rw [txt_app]
  clear htw
  cases h with
  | app x y loc xb p q hP hb hx hy =>
  obtain ⟨T, u, rfl⟩ := hx.iface
  obtain ⟨T2, u2, rfl⟩ := hy.iface
  have t0 := Tryz.xApNa (.pointer (some ⟨xb, 0, none⟩)) w
  have t1 := Tryz.xApNu (.pointer (some ⟨xb, 0, none⟩)) w
  have t2 := Tryz.xApFu (.pointer (some ⟨xb, 0, none⟩)) w
  have t3 := Tryz.xApIf (.pointer (some ⟨xb, 0, none⟩)) w
  have t4 := Tryz.xApLe (.pointer (some ⟨xb, 0, none⟩)) w
  have t5 := Tryz.xApRe (.pointer (some ⟨xb, 0, none⟩)) w
  have t6 := Tryz.xApAp (.pointer (some ⟨xb, 0, none⟩)) w
  have c1 : w.cell? ⟨xb, 1, none⟩ = some (.iface T u) := by simp [World.cell?, hb]
  go_enter Tryz.func76, Tryz.ntmps76
  have HF : Hid _ := wbf hx.drew
  have HX : Hid _ := wwithin (needsF x.op) ihx hx.drew (show BW 182 w.drew B b (.string last) bs from hW) (by omega)
  go_wp2_with fail
  go_region_with (first | (go_at_call 116; refine Calls.mono HF.out ?_; rintro e w' ⟨rfl, rfl⟩) | (go_at_call 115; refine Calls.mono HX.out ?_; rintro e w1 ⟨rfl, l1, bs1, o1, E1, n1, hW1, hk1⟩))
  all_goals
    have hK1 : KB B b w w1 := (show KB B b w w.drew from ⟨(Kp.refl _ w).drew, fun _ _ _ _ _ _ h => h⟩).trans hk1
    have hb1 := (hK1.xk hW) _ _ _ _ (by decide) hb
    have c2 : w1.cell? ⟨xb, 2, none⟩ = some (.iface T2 u2) := by simp [World.cell?, hb1]
    have hy1 := hy.keepT (hK1.xk hW)
    have HG : Hid _ := wba hy1.drew
    have HY : Hid _ := wwithin (needsA y.op) ihy hy1.drew (show BW 182 w1.drew B b (.string l1) bs1 from hW1) (by omega)
    clear HF HX
    go_wp2_with fail
    go_region_with (first | (go_at_call 117; refine Calls.mono HG.out ?_; rintro e w' ⟨rfl, rfl⟩) | (go_at_call 115; refine Calls.mono HY.out ?_; rintro e w2 ⟨rfl, l2, bs2, o2, E2, n2, hW2, hk2⟩))
    all_goals
      have hK2 : KB B b w w2 := hK1.trans ((show KB B b w1 w1.drew from ⟨(Kp.refl _ w1).drew, fun _ _ _ _ _ _ h => h⟩).trans hk2)
      go_wp2
      go_end0
      refine ⟨rfl, _, o2, ?_, hK2⟩
      have EE : bs2 = bs ++ Lib.strCells (pre last ++ (brk (needsF x.op) (txt x) ++ { data := #[32] } ++ brk (needsA y.op) (txt y))) := by
        rw [E2.out, E1.out, sC_join, pre_wd o1]
        congr 2
        apply bytes_ext
        simp only [bytes_app, List.append_assoc, List.cons_append, List.nil_append]
      rw [← EE]
      exact hW2
end Go.Proofs.YtleenphlgbklmabGreatDoor
