import Derived.Test.YtleenphlgbklmaaGreatDoorQTxtSize
import Derived.Deep.RegionWith
set_option linter.unusedVariables false
set_option linter.unusedSimpArgs false
namespace Go.Proofs.YtleenphlgbklmaaGreatDoor
open Go.RowKit

def SText (x : X) : Prop := ∀ (w : World) (v : Value) (fs : List Nat), Rep w x v fs → WF x → tw x ≤ 1000000 →
  Calls Tryz.prog 17 #[v] w fun e w' => e = .returned (.string (txt x)) ∧ ∃ n, w' = w.drewN n

theorem ret_str {a b : ByteArray} (h : a = b) : Ending.returned (.string a) = .returned (.string b) := by rw [h]

theorem SText.at {x : X} (h : SText x) {w : World} {v : Value} {fs : List Nat} (hr : Rep w x v fs) (hw : WF x) (ht : tw x ≤ 1000000) (n : Nat) : Calls Tryz.prog 17 #[v] (w.drewN n) fun e w' => e = .returned (.string (txt x)) ∧ ∃ m, w' = (w.drewN n).drewN m :=
  h (w.drewN n) v fs (Rep.same x hr (fun _ _ => rfl)) hw ht

set_option maxRecDepth 20000 in
set_option maxHeartbeats 2000000 in
theorem text_leaf (op n : ByteArray) (loc : Nat) (h : op = { data := #[110, 97, 109, 101] } ∨ op = { data := #[110, 117, 109] }) : SText (.mk op [n] [] loc) := by
  intro w v fs hr _ _
  simp only [Rep] at hr
  obtain ⟨b, nv, lv, ps, fk, rfl, h2, h3, _, _, _⟩ := hr
  obtain ⟨ao, cap, rfl, hrow⟩ := row_form (ps := [Value.string n]) h3
  obtain ⟨g, rfl, hc⟩ := hrow 0 (by simp)
  have c0 : w.cell? ⟨b, 0, none⟩ = some (.string op) := by simp [World.cell?, h2]
  have c1 : w.cell? ⟨b, 1, none⟩ = some (.slice (some ⟨g, 0, none⟩) 1 cap) := by simp [World.cell?, h2]
  simp at hc
  have e1 : Hid (txt (.mk op [n] [] loc) = n) := by rcases h with rfl | rfl <;> simp [Hid, txt]
  clear h2 h3 hrow
  rcases h with rfl | rfl
  all_goals
    go_enter Tryz.func17, Tryz.ntmps17
    go_wp2
    go_ret
    exact ⟨ret_str e1.out.symm, 0, rfl⟩

set_option maxRecDepth 20000 in
set_option maxHeartbeats 2000000 in
theorem text_fun (n : ByteArray) (a : X) (loc : Nat) (ih : SText a) : SText (.mk { data := #[102, 117, 110] } [n] [a] loc) := by
  intro w v fs hr hwf ht
  have hwa : WF a := by
    cases hwf with
    | fn _ _ _ h => exact h
    | lt _ _ _ _ h _ _ _ => rcases h with h | h <;> exact absurd h (by decide)
  simp only [Rep, Reps] at hr
  obtain ⟨b, nv, lv, ps, fk, rfl, h2, h3, h4, ⟨p, qs, f1, f2, rfl, hra, ⟨rfl, rfl⟩, rfl⟩, _⟩ := hr
  obtain ⟨ao, cap, rfl, hrow⟩ := row_form (ps := [Value.string n]) h3
  obtain ⟨g, rfl, hc⟩ := hrow 0 (by simp)
  obtain ⟨ao2, cap2, rfl, hrow2⟩ := row_form h4
  obtain ⟨g2, rfl, hc2⟩ := hrow2 0 (by simp)
  have c0 : w.cell? ⟨b, 0, none⟩ = some (.string { data := #[102, 117, 110] }) := by simp [World.cell?, h2]
  have c1 : w.cell? ⟨b, 1, none⟩ = some (.slice (some ⟨g, 0, none⟩) 1 cap) := by simp [World.cell?, h2]
  have c2 : w.cell? ⟨b, 2, none⟩ = some (.slice (some ⟨g2, 0, none⟩) 1 cap2) := by simp [World.cell?, h2]
  simp at hc hc2
  simp [tw, tws] at ht
  have sz := txt_size a hwa
  have ha := ih.at hra hwa (by omega)
  have e1 : Hid (txt (.mk { data := #[102, 117, 110] } [n] [a] loc) = { data := #[102, 117, 110, 32] } ++ n ++ { data := #[32, 45, 62, 32] } ++ txt a) := by simp [Hid, txt, txts]
  have s1 : (txt a).size ≤ 1000000 := by omega
  have s2 : n.size ≤ 1000000 := by omega
  generalize txt a = ta at *
  clear h2 h3 h4 hrow hrow2 ih hra hwa hwf sz ht
  have HA : Hid (∀ n : Nat, Calls Tryz.prog 17 #[p] (w.drewN n) fun e w' => e = .returned (.string ta) ∧ ∃ m, w' = (w.drewN n).drewN m) := ha
  clear ha
  go_enter Tryz.func17, Tryz.ntmps17
  go_wp2
  go_quiet ((go_at_call 17; exact Calls.quiet_of (HA.out _)))
  go_wp2
  go_ret
  exact ⟨ret_str e1.out.symm, _, rfl⟩

set_option maxRecDepth 20000 in
set_option maxHeartbeats 4000000 in
theorem text_pair (a a2 : X) (loc : Nat) (ih : SText a) (ih2 : SText a2) : SText (.mk { data := #[112, 97, 105, 114] } [] [a, a2] loc) := by
  intro w v fs hr hwf ht
  obtain ⟨hwa, hwa2⟩ : WF a ∧ WF a2 := by
    cases hwf with
    | pair _ _ _ h h2 => exact ⟨h, h2⟩
    | lt _ _ _ _ h _ _ _ => rcases h with h | h <;> exact absurd h (by decide)
  simp only [Rep, Reps] at hr
  obtain ⟨b, nv, lv, ps, fk, rfl, h2, _, h4, ⟨p, qs, f1, f2, rfl, hra, ⟨p2, qs2, f3, f4, rfl, hra2, ⟨rfl, rfl⟩, rfl⟩, rfl⟩, _⟩ := hr
  obtain ⟨ao2, cap2, rfl, hrow2⟩ := row_form h4
  obtain ⟨g2, rfl, hc2⟩ := hrow2 0 (by simp)
  obtain ⟨g2', e, hc3⟩ := hrow2 1 (by simp)
  obtain rfl : g2 = g2' := by injection e with e; injection e
  have c0 : w.cell? ⟨b, 0, none⟩ = some (.string { data := #[112, 97, 105, 114] }) := by simp [World.cell?, h2]
  have c2 : w.cell? ⟨b, 2, none⟩ = some (.slice (some ⟨g2, 0, none⟩) 2 cap2) := by simp [World.cell?, h2]
  simp at hc2 hc3
  simp [tw, tws] at ht
  have sz := txt_size a hwa
  have sz2 := txt_size a2 hwa2
  have ha := ih.at hra hwa (by omega)
  have ha2 := ih2.at hra2 hwa2 (by omega)
  have e1 : Hid (txt (.mk { data := #[112, 97, 105, 114] } [] [a, a2] loc) = { data := #[40] } ++ txt a ++ { data := #[44, 32] } ++ txt a2 ++ { data := #[41] }) := by simp [Hid, txt, txts]
  have s1 : (txt a).size ≤ 1000000 := by omega
  have s2 : (txt a2).size ≤ 1000000 := by omega
  generalize txt a = ta at *
  generalize txt a2 = ta2 at *
  clear h2 h4 hrow2 ih hra hwa hwf sz ht ih2 hra2 hwa2 sz2 e
  have HA : Hid (∀ n : Nat, Calls Tryz.prog 17 #[p] (w.drewN n) fun e w' => e = .returned (.string ta) ∧ ∃ m, w' = (w.drewN n).drewN m) := ha
  have HA2 : Hid (∀ n : Nat, Calls Tryz.prog 17 #[p2] (w.drewN n) fun e w' => e = .returned (.string ta2) ∧ ∃ m, w' = (w.drewN n).drewN m) := ha2
  clear ha ha2
  go_enter Tryz.func17, Tryz.ntmps17
  go_wp2
  go_quiet ((first | (go_at_call_of 17 p; exact Calls.quiet_of (HA.out _)) | (go_at_call_of 17 p2; exact Calls.quiet_of (HA2.out _))))
  go_wp2
  go_ret
  exact ⟨ret_str e1.out.symm, _, rfl⟩

set_option maxRecDepth 20000 in
set_option maxHeartbeats 4000000 in
theorem text_if (a a2 a3 : X) (loc : Nat) (ih : SText a) (ih2 : SText a2) (ih3 : SText a3) : SText (.mk { data := #[105, 102] } [] [a, a2, a3] loc) := by
  intro w v fs hr hwf ht
  obtain ⟨hwa, hwa2, hwa3⟩ : WF a ∧ WF a2 ∧ WF a3 := by
    cases hwf with
    | ite _ _ _ _ h h2 h3 => exact ⟨h, h2, h3⟩
    | lt _ _ _ _ h _ _ _ => rcases h with h | h <;> exact absurd h (by decide)
  simp only [Rep, Reps] at hr
  obtain ⟨b, nv, lv, ps, fk, rfl, h2, _, h4, ⟨p, qs, f1, f2, rfl, hra, ⟨p2, qs2, f3, f4, rfl, hra2, ⟨p3, qs3, f5, f6, rfl, hra3, ⟨rfl, rfl⟩, rfl⟩, rfl⟩, rfl⟩, _⟩ := hr
  obtain ⟨ao2, cap2, rfl, hrow2⟩ := row_form h4
  obtain ⟨g2, rfl, hc2⟩ := hrow2 0 (by simp)
  obtain ⟨g2', e, hc3⟩ := hrow2 1 (by simp)
  obtain rfl : g2 = g2' := by injection e with e; injection e
  obtain ⟨g2', e', hc4⟩ := hrow2 2 (by simp)
  obtain rfl : g2 = g2' := by injection e' with e'; injection e'
  have c0 : w.cell? ⟨b, 0, none⟩ = some (.string { data := #[105, 102] }) := by simp [World.cell?, h2]
  have c2 : w.cell? ⟨b, 2, none⟩ = some (.slice (some ⟨g2, 0, none⟩) 3 cap2) := by simp [World.cell?, h2]
  simp at hc2 hc3 hc4
  simp [tw, tws] at ht
  have sz := txt_size a hwa
  have sz2 := txt_size a2 hwa2
  have sz3 := txt_size a3 hwa3
  have ha := ih.at hra hwa (by omega)
  have ha2 := ih2.at hra2 hwa2 (by omega)
  have ha3 := ih3.at hra3 hwa3 (by omega)
  have e1 : Hid (txt (.mk { data := #[105, 102] } [] [a, a2, a3] loc) = { data := #[105, 102, 32] } ++ txt a ++ { data := #[32, 116, 104, 101, 110, 32] } ++ txt a2 ++ { data := #[32, 101, 108, 115, 101, 32] } ++ txt a3) := by simp [Hid, txt, txts]
  have s1 : (txt a).size ≤ 1000000 := by omega
  have s2 : (txt a2).size ≤ 1000000 := by omega
  have s3 : (txt a3).size ≤ 1000000 := by omega
  generalize txt a = ta at *
  generalize txt a2 = ta2 at *
  generalize txt a3 = ta3 at *
  clear h2 h4 hrow2 ih hra hwa hwf sz ht ih2 hra2 hwa2 sz2 e e' ih3 hra3 hwa3 sz3
  have HA : Hid (∀ n : Nat, Calls Tryz.prog 17 #[p] (w.drewN n) fun e w' => e = .returned (.string ta) ∧ ∃ m, w' = (w.drewN n).drewN m) := ha
  have HA2 : Hid (∀ n : Nat, Calls Tryz.prog 17 #[p2] (w.drewN n) fun e w' => e = .returned (.string ta2) ∧ ∃ m, w' = (w.drewN n).drewN m) := ha2
  have HA3 : Hid (∀ n : Nat, Calls Tryz.prog 17 #[p3] (w.drewN n) fun e w' => e = .returned (.string ta3) ∧ ∃ m, w' = (w.drewN n).drewN m) := ha3
  clear ha ha2 ha3
  go_enter Tryz.func17, Tryz.ntmps17
  go_wp2
  go_quiet ((first | (go_at_call_of 17 p; exact Calls.quiet_of (HA.out _)) | (go_at_call_of 17 p2; exact Calls.quiet_of (HA2.out _)) | (go_at_call_of 17 p3; exact Calls.quiet_of (HA3.out _))))
  go_wp2
  go_ret
  exact ⟨ret_str e1.out.symm, _, rfl⟩
end Go.Proofs.YtleenphlgbklmaaGreatDoor
