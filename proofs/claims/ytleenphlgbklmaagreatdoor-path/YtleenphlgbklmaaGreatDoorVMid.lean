import Derived.Deep.RegionHeld3
import Derived.Deep.DeepCutAuto
import Derived.Deep.LoopGhost
import Derived.Deep.RegionWith
import Derived.Test.YtleenphlgbklmaaGreatDoorVTyMirror
import Derived.Test.YtleenphlgbklmaaGreatDoorVGrow
set_option linter.unusedVariables false
set_option linter.unusedSimpArgs false
namespace Go.Proofs.YtleenphlgbklmaaGreatDoor
open Go.RowKit

theorem Tryz.info9 : (Tryz.prog.info? 9).map (fun i => (i.zero, i.size, i.bytes)) = some (some (.string { data := #[] }), 1, 16) := by kernel_rfl
end Go.Proofs.YtleenphlgbklmaaGreatDoor

namespace Go.Proofs.YtleenphlgbklmaaGreatDoor
open Go.RowKit

/-- within exp: its expression in the making, the reader's state; what lay ahead of the call is as it was. -/
structure Mid (w wx : World) (rb tb c : Nat) (l : List Tk) (k : Nat) (bad : Int) (xb : Nat) (op : ByteArray) (names : List ByteArray) (kids : List X) (loc : Nat) : Prop where
  bl : ∃ nv lv ps fk, Bld wx w.heap.size xb op names kids loc nv lv ps fk
  kp : Kp (fun q => q = rb ∨ w.heap.size ≤ q) w wx
  rd : Rd wx rb tb c l k bad
  kl : k < l.length

section
variable {w wx w5 w6 : World} {rb tb c : Nat} {l : List Tk} {k k' : Nat} {bad bad' : Int} {xb : Nat} {op : ByteArray} {names : List ByteArray} {kids : List X} {loc : Nat} {nv lv : Value} {ps : List Value} {fk : List Nat}

theorem Mid.step (h : Mid w wx rb tb c l k bad xb op names kids loc) (hr : rb < w.heap.size) (g : Kp (· = rb) wx w5) (r : Rd w5 rb tb c l k' bad') (hk : k' < l.length) : Mid w w5 rb tb c l k' bad' xb op names kids loc := by
  obtain ⟨nv, lv, ps, fk, hb⟩ := h.bl
  exact ⟨⟨nv, lv, ps, fk, hb.kp g hr⟩, h.kp.trans (g.mono fun q _ e => Or.inl e), r, hk⟩
theorem Mid.drew (h : Mid w wx rb tb c l k bad xb op names kids loc) : Mid w wx.drew rb tb c l k bad xb op names kids loc := by
  obtain ⟨nv, lv, ps, fk, hb⟩ := h.bl
  exact ⟨⟨nv, lv, ps, fk, hb.same (fun _ _ _ => rfl) (Reps.lt kids hb.rp)⟩, h.kp.drew, h.rd.drew, h.kl⟩
theorem Mid.end (h : Mid w wx rb tb c l k bad xb op names kids loc) : ∃ b fs, Ending.returned (.pointer (some ⟨xb, 0, none⟩)) = .returned (.pointer (some ⟨b, 0, none⟩)) ∧ Rep wx (.mk op names kids loc) (.pointer (some ⟨b, 0, none⟩)) fs ∧ (∀ q, q ∈ fs → w.heap.size ≤ q) ∧ Kp (· = rb) w wx ∧ Rd wx rb tb c l k bad ∧ k < l.length := by
  obtain ⟨nv, lv, ps, fk, hb⟩ := h.bl
  exact ⟨xb, _, rfl, hb.rep, hb.fs_low, h.kp.mono (fun q hq e => by rcases e with e | e; exact e; omega), h.rd, h.kl⟩

end
end Go.Proofs.YtleenphlgbklmaaGreatDoor
