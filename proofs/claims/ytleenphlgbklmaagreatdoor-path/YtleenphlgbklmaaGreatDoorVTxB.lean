import Derived.Test.YtleenphlgbklmaaGreatDoorVPKnown
import Derived.LaidEql
import Derived.Test.YtleenphlgbklmaaGreatDoorVGrow
set_option linter.unusedVariables false
set_option linter.unusedSimpArgs false
namespace Go.Proofs.YtleenphlgbklmaaGreatDoor
open Go.RowKit

def Kd.tp : Kd → TypeId
  | .vr => 216
  | .ls => 222
  | .pr => 226
  | .ar => 230
/-- a type's value, by where the nodes lie. -/
def RV (ad : List Nat) : TR → Value → Prop
  | .int, v => v = .iface 343 (.agg #[.string { data := #[105, 110, 116] }])
  | .bool, v => v = .iface 343 (.agg #[.string { data := #[98, 111, 111, 108] }])
  | .nd k i, v => ∃ b, ad[i]? = some b ∧ v = .iface k.tp (.pointer (some ⟨b, 0, none⟩))
def SV (ad : List Nat) : Option TR → Value → Prop
  | none, v => v = .nilIface
  | some r, v => RV ad r v
/-- a node's block. -/
def NBk (ad : List Nat) : NK → Value → Obj → Prop
  | .vr nm g, s, o => o = .cells #[s, .string nm, .bool g] 221 (0, 0)
  | .ls x, s, o => ∃ p, RV ad x p ∧ o = .cells #[s, p] 225 (0, 0)
  | .pr x y, s, o => ∃ p q, RV ad x p ∧ RV ad y q ∧ o = .cells #[s, p, q] 229 (0, 0)
  | .ar x y, s, o => ∃ p q, RV ad x p ∧ RV ad y q ∧ o = .cells #[s, p, q] 233 (0, 0)
/-- the store lies in memory. -/
structure SW (w : World) (ad : List Nat) (τ : St) : Prop where
  len : ad.length = τ.length
  inj : ad.Nodup
  blk : ∀ (i : Nat) (nk : NK) (s : Option TR) (b : Nat), τ[i]? = some ⟨nk, s⟩ → ad[i]? = some b → ∃ sv o, w.heap[b]? = some o ∧ SV ad s sv ∧ NBk ad nk sv o
def TB (o : Obj) : Prop := ∃ cs e f, o = .cells cs e f ∧ (e = 221 ∨ e = 225 ∨ e = 229 ∨ e = 233)
/-- all that lay there is as it was, but for the blocks of S, and what was found out about the store's types. -/
structure Kt (ad : List Nat) (S : Nat → Prop) (w w' : World) : Prop where
  os : w'.os = w.os
  output : w'.output = w.output
  size : w.heap.size ≤ w'.heap.size
  blk0 : ∀ (k : Nat) (o : Obj), w.heap[k]? = some o → ¬ S k → (TB o → ¬ k ∈ ad) → w'.heap[k]? = some o
theorem Kt.blk {ad : List Nat} {S : Nat → Prop} {w w' : World} (h : Kt ad S w w') (k : Nat) (o : Obj) (hk : w.heap[k]? = some o) (hn : ¬ S k) (ht : ¬ TB o) : w'.heap[k]? = some o := h.blk0 k o hk hn (fun z => absurd z ht)
theorem Kt.refl (ad : List Nat) (S : Nat → Prop) (w : World) : Kt ad S w w := ⟨rfl, rfl, Nat.le_refl _, fun _ _ h _ _ => h⟩
theorem Kt.trans {ad : List Nat} {S : Nat → Prop} {a b c : World} (h : Kt ad S a b) (k : Kt ad S b c) : Kt ad S a c :=
  ⟨k.os.trans h.os, k.output.trans h.output, Nat.le_trans h.size k.size, fun q o hq hs ht => k.blk0 q o (h.blk0 q o hq hs ht) hs ht⟩
theorem Kt.then {ad ad' : List Nat} {S : Nat → Prop} {a b c : World} (h : Kt ad S a b) (k : Kt ad' S b c) (hn : ∀ q, q ∈ ad' → q ∈ ad ∨ a.heap.size ≤ q) : Kt ad S a c :=
  ⟨k.os.trans h.os, k.output.trans h.output, Nat.le_trans h.size k.size, fun q o hq hs ht => k.blk0 q o (h.blk0 q o hq hs ht) hs (fun z y => by
    rcases hn q y with e | e
    · exact ht z e
    · have := lt_of_block hq
      omega)⟩
theorem Kt.mono {ad : List Nat} {S T : Nat → Prop} {a b : World} (h : Kt ad S a b) (hs : ∀ q, q < a.heap.size → S q → T q) : Kt ad T a b :=
  ⟨h.os, h.output, h.size, fun q o hq hn ht => h.blk0 q o hq (fun x => hn (hs q (lt_of_block hq) x)) ht⟩
theorem Kt.of_kq {ad : List Nat} {S : Nat → Prop} {a b : World} (h : Kq S a b) : Kt ad S a b := ⟨h.os, h.output, h.size, fun q _ hq hn _ => (h.block q (lt_of_block hq) hn).trans hq⟩
theorem Kt.of_kp {ad : List Nat} {S : Nat → Prop} {a b : World} (h : Kp S a b) : Kt ad S a b := ⟨h.os, h.output, h.size, fun _ _ hq hn _ => h.blk hq hn⟩
theorem Kt.of_kept {ad : List Nat} {S : Nat → Prop} {a b : World} (h : Kept a b) : Kt ad S a b := ⟨h.os, h.output, h.size, fun _ _ hq _ _ => h.blk hq⟩
/-- where the store and the rest are new, all is kept. -/
theorem Kt.kept {ad : List Nat} {S : Nat → Prop} {a b : World} (h : Kt ad S a b) (hS : ∀ q, q < a.heap.size → ¬ S q) (hA : ∀ q, q ∈ ad → a.heap.size ≤ q) : Kept a b := ⟨h.os, h.output, h.size, fun q hq => by
  have e : a.heap[q]? = some a.heap[q] := by simp
  rw [e]
  exact h.blk0 q _ e (hS q hq) (fun _ z => by have := hA q z; omega)⟩
theorem RV.up {ad : List Nat} {r : TR} {v : Value} (h : RV ad r v) (u : List Nat) : RV (ad ++ u) r v := by
  cases r with
  | int => exact h
  | bool => exact h
  | nd k i =>
    obtain ⟨b, h1, h2⟩ := h
    exact ⟨b, by rw [List.getElem?_append_left (List.getElem?_eq_some_iff.1 h1).1]; exact h1, h2⟩
theorem RV.det {ad : List Nat} {r : TR} {v v' : Value} (h : RV ad r v) (g : RV ad r v') : v = v' := by
  cases r with
  | int => exact h.trans g.symm
  | bool => exact h.trans g.symm
  | nd k i =>
    obtain ⟨b, h1, h2⟩ := h
    obtain ⟨c, g1, g2⟩ := g
    rw [h1] at g1
    simp at g1
    rw [h2, g2, g1]
theorem RV.iface {ad : List Nat} {r : TR} {v : Value} (h : RV ad r v) : ∃ T u, v = .iface T u := by
  cases r with
  | int => exact ⟨_, _, h⟩
  | bool => exact ⟨_, _, h⟩
  | nd k i =>
    obtain ⟨b, h1, h2⟩ := h
    exact ⟨_, _, h2⟩
theorem SV.up {ad : List Nat} {s : Option TR} {v : Value} (h : SV ad s v) (u : List Nat) : SV (ad ++ u) s v := by
  cases s with
  | none => exact h
  | some r => exact RV.up h u
theorem NBk.up {ad : List Nat} {nk : NK} {s : Value} {o : Obj} (h : NBk ad nk s o) (u : List Nat) : NBk (ad ++ u) nk s o := by
  cases nk with
  | vr nm g => exact h
  | ls x => obtain ⟨p, h1, h2⟩ := h; exact ⟨p, h1.up u, h2⟩
  | pr x y => obtain ⟨p, q, h1, h2, h3⟩ := h; exact ⟨p, q, h1.up u, h2.up u, h3⟩
  | ar x y => obtain ⟨p, q, h1, h2, h3⟩ := h; exact ⟨p, q, h1.up u, h2.up u, h3⟩
theorem NBk.tb {ad : List Nat} {nk : NK} {s : Value} {o : Obj} (h : NBk ad nk s o) : TB o := by
  cases nk with
  | vr nm g => exact ⟨_, _, _, h, .inl rfl⟩
  | ls x => obtain ⟨p, h1, h2⟩ := h; exact ⟨_, _, _, h2, .inr (.inl rfl)⟩
  | pr x y => obtain ⟨p, q, h1, h2, h3⟩ := h; exact ⟨_, _, _, h3, .inr (.inr (.inl rfl))⟩
  | ar x y => obtain ⟨p, q, h1, h2, h3⟩ := h; exact ⟨_, _, _, h3, .inr (.inr (.inr rfl))⟩
/-- the node's first cell: what it was found to be. -/
theorem NBk.first {ad : List Nat} {nk : NK} {s : Value} {o : Obj} (h : NBk ad nk s o) : ∃ cs e, o = .cells cs e (0, 0) ∧ cs[0]? = some s ∧ ∀ s', NBk ad nk s' (.cells (cs.set! 0 s') e (0, 0)) := by
  cases nk with
  | vr nm g => exact ⟨_, _, h, rfl, fun s' => rfl⟩
  | ls x => obtain ⟨p, h1, h2⟩ := h; exact ⟨_, _, h2, rfl, fun s' => ⟨p, h1, rfl⟩⟩
  | pr x y => obtain ⟨p, q, h1, h2, h3⟩ := h; exact ⟨_, _, h3, rfl, fun s' => ⟨p, q, h1, h2, rfl⟩⟩
  | ar x y => obtain ⟨p, q, h1, h2, h3⟩ := h; exact ⟨_, _, h3, rfl, fun s' => ⟨p, q, h1, h2, rfl⟩⟩
theorem NBk.cell {ad : List Nat} {nk : NK} {s : Value} {o : Obj} {w : World} {b : Nat} (h : NBk ad nk s o) (hb : w.heap[b]? = some o) : w.cell? ⟨b, 0, none⟩ = some s := by
  obtain ⟨cs, e, rfl, h1, _⟩ := h.first
  simp [World.cell?, hb, h1]
theorem SW.keep {w w' : World} {ad : List Nat} {τ : St} (h : SW w ad τ) (hk : ∀ b o, b ∈ ad → w.heap[b]? = some o → w'.heap[b]? = some o) : SW w' ad τ :=
  ⟨h.len, h.inj, fun i nk s b h1 h2 => by
    obtain ⟨sv, o, h3, h4, h5⟩ := h.blk i nk s b h1 h2
    exact ⟨sv, o, hk b o (List.mem_of_getElem? h2) h3, h4, h5⟩⟩
theorem SW.mem {w : World} {ad : List Nat} {τ : St} (h : SW w ad τ) {b : Nat} (hb : b ∈ ad) : ∃ (i : Nat) (nk : NK) (s : Option TR) (sv : Value) (o : Obj), τ[i]? = some ⟨nk, s⟩ ∧ ad[i]? = some b ∧ w.heap[b]? = some o ∧ SV ad s sv ∧ NBk ad nk sv o := by
  obtain ⟨i, hi⟩ := List.getElem?_of_mem hb
  have hlt := (List.getElem?_eq_some_iff.1 hi).1
  have : i < τ.length := h.len ▸ hlt
  obtain ⟨sv, o, h3, h4, h5⟩ := h.blk i (τ[i]).k (τ[i]).s b (by simp [this]) hi
  exact ⟨i, (τ[i]).k, (τ[i]).s, sv, o, by simp [this], hi, h3, h4, h5⟩
theorem SW.tb {w : World} {ad : List Nat} {τ : St} (h : SW w ad τ) {b : Nat} (hb : b ∈ ad) : ∃ o, w.heap[b]? = some o ∧ TB o := by
  obtain ⟨i, nk, s, sv, o, _, _, h3, _, h5⟩ := h.mem hb
  exact ⟨o, h3, h5.tb⟩
/-- a node was found to be another type. -/
theorem SW.found {w : World} {ad : List Nat} {τ : St} (h : SW w ad τ) {i b : Nat} {nk : NK} {s : Option TR} {r : TR} {v : Value} (hi : τ[i]? = some ⟨nk, s⟩) (hb : ad[i]? = some b) (hv : RV ad r v) : SW (w.setCell ⟨b, 0, none⟩ v) ad (τ.set i ⟨nk, some r⟩) := by
  refine ⟨by simp [h.len], h.inj, ?_⟩
  intro j mk s' c hj hc
  by_cases e : i = j
  · subst e
    rw [hb] at hc
    simp at hc
    subst hc
    have hlt := (List.getElem?_eq_some_iff.1 hi).1
    simp [hlt] at hj
    obtain ⟨rfl, rfl⟩ := hj
    obtain ⟨sv, o, h3, h4, h5⟩ := h.blk i nk s b hi hb
    obtain ⟨cs, ty, rfl, h6, h7⟩ := h5.first
    refine ⟨v, _, ?_, hv, h7 v⟩
    simp [World.setCell, h3, Array.getElem?_modify]
  · rw [List.getElem?_set_ne e] at hj
    obtain ⟨sv, o, h3, h4, h5⟩ := h.blk j mk s' c hj hc
    refine ⟨sv, o, ?_, h4, h5⟩
    rw [Below.heap_setCell _ _ _ _ (fun z => ?_)]
    · exact h3
    · have z : c = b := z
      have e1 := (List.getElem?_eq_some_iff.1 hb)
      have e2 := (List.getElem?_eq_some_iff.1 hc)
      obtain ⟨l1, e1⟩ := e1
      obtain ⟨l2, e2⟩ := e2
      have hp := List.pairwise_iff_getElem.1 h.inj
      rcases Nat.lt_trichotomy i j with q | q | q
      · exact hp i j l1 l2 q (by rw [e1, e2, z])
      · exact e q
      · exact hp j i l2 l1 q (by rw [e1, e2, z])
theorem Kt.setT {ad : List Nat} {S : Nat → Prop} {w : World} {b : Nat} {o : Obj} (hb : w.heap[b]? = some o) (ht : TB o) (ha : b ∈ ad) (c : Nat) (v : Value) : Kt ad S w (w.setCell ⟨b, c, none⟩ v) := by
  refine ⟨rfl, rfl, by simp, ?_⟩
  intro k o' hk _ hn
  rw [Below.heap_setCell _ _ _ _ (fun z => ?_)]
  · exact hk
  · have z : k = b := z
    rw [z, hb] at hk
    simp at hk
    exact hn (hk ▸ ht) (z ▸ ha)
theorem Tryz.fAny (k : Kd) (b : Nat) (w : World) : (Go.method 538 k.tp (.pointer (some ⟨b, 0, none⟩)) "schemes/infer.finding").run Tryz.prog w = .ok (280, .pointer (some ⟨b, 0, none⟩)) w := by
  cases k
  · exact Tryz.fVar b w
  · exact Tryz.fList b w
  · exact Tryz.fPair b w
  · exact Tryz.fArr b w
set_option maxRecDepth 20000 in
set_option maxHeartbeats 1000000 in
theorem find_ptr (b : Nat) (w : World) : Calls Tryz.prog 280 #[.pointer (some ⟨b, 0, none⟩)] w fun e w' => e = .returned (.pointer (some ⟨b, 0, none⟩)) ∧ w' = w := by
  go_enter Tryz.func280, Tryz.ntmps280
  go_wp2
  go_ret
  exact ⟨rfl, rfl⟩
set_option maxRecDepth 20000 in
set_option maxHeartbeats 1000000 in
theorem known_sw (ad : List Nat) {τ : St} {r r0 : TR} (h : Rp τ r r0) : ∀ (w : World) (v : Value), SW w ad τ → RV ad r v →
    Calls Tryz.prog 182 #[v] w fun e w' => ∃ v0 τ', e = .returned v0 ∧ RV ad r0 v0 ∧ SW w' ad τ' ∧ Ev τ τ' ∧ Kt ad (fun _ => False) w w' := by
  induction h with
  | int =>
    intro w v hs hv
    rw [show v = _ from hv]
    refine (known_base _ w).mono ?_
    rintro e w' ⟨rfl, hk⟩
    exact ⟨_, τ, rfl, rfl, hs.keep (fun b o _ hb => hk.blk hb id), Ev.refl _, Kt.of_kp hk⟩
  | bool =>
    intro w v hs hv
    rw [show v = _ from hv]
    refine (known_base _ w).mono ?_
    rintro e w' ⟨rfl, hk⟩
    exact ⟨_, τ, rfl, rfl, hs.keep (fun b o _ hb => hk.blk hb id), Ev.refl _, Kt.of_kp hk⟩
  | root i nk hi =>
    intro w v hs hv
    obtain ⟨b, hb, rfl⟩ := hv
    obtain ⟨sv, o, h1, h2, h3⟩ := hs.blk i nk none b hi hb
    rw [show sv = _ from h2] at h3
    refine (known_ptr _ b w (Tryz.fAny _ b w) (h3.cell h1)).mono ?_
    rintro e w' ⟨rfl, rfl⟩
    exact ⟨_, τ, rfl, ⟨b, hb, rfl⟩, hs, Ev.refl _, Kt.refl _ _ _⟩
  | step i nk r r0 hi hr ih =>
    intro w v hs hv
    obtain ⟨b, hb, rfl⟩ := hv
    obtain ⟨sv, o, h1, h2, h3⟩ := hs.blk i nk (some r) b hi hb
    have h2 : RV ad r sv := h2
    obtain ⟨T, u, rfl⟩ := h2.iface
    have c0 := h3.cell h1
    have hm := Tryz.fAny nk.kd b w
    have HI : Hid _ := ih w _ hs h2
    have HF : Hid _ := find_ptr b w
    have FIN : Hid (∀ (w1 : World) (τ1 : St) (v0 : Value), SW w1 ad τ1 → Ev τ τ1 → Kt ad (fun _ => False) w w1 → RV ad r0 v0 → (∃ x, w1.frozen? ⟨b, 0, none⟩ = false ∧ w1.cell? ⟨b, 0, none⟩ = some x) ∧ SW (w1.setCell ⟨b, 0, none⟩ v0) ad (τ1.set i ⟨nk, some r0⟩) ∧ Ev τ (τ1.set i ⟨nk, some r0⟩) ∧ Kt ad (fun _ => False) w (w1.setCell ⟨b, 0, none⟩ v0)) := by
      intro w1 τ1 v0 hs1 he1 hk1 hv0
      obtain ⟨s', q1, q2⟩ := he1.kk i nk _ hi
      cases s' with
      | none => simp at q2
      | some r1 =>
        obtain ⟨sv1, o1, g1, g2, g3⟩ := hs1.blk i nk (some r1) b q1 hb
        have hrr := he1.rp _ _ (Rp.step i nk r r0 hi hr)
        have hr1 : Rp τ1 r1 r0 := by
          generalize hx : TR.nd nk.kd i = x at hrr
          cases hrr with
          | int => cases hx
          | bool => cases hx
          | root j mk hj =>
            simp only [TR.nd.injEq] at hx
            rw [← hx.2, q1] at hj
            simp at hj
          | step j mk r2 r3 hj h5 =>
            simp only [TR.nd.injEq] at hx
            rw [← hx.2, q1] at hj
            simp at hj
            rw [hj.2]
            exact h5
        obtain ⟨cs, ty, rfl, _, _⟩ := g3.first
        exact ⟨⟨_, by simp [World.frozen?, g1], g3.cell g1⟩, hs1.found q1 hb hv0, he1.trans (Rp.short q1 hr1), hk1.trans (Kt.setT g1 g3.tb (List.mem_of_getElem? hb) _ _)⟩
    clear ih hs h1 h3
    go_enter Tryz.func182, Tryz.ntmps182
    go_wp2_with fail
    refine Calls.mono HF.out ?_
    rintro e w' ⟨rfl, hww⟩
    rw [hww]
    clear hww w' HF
    go_wp2_with fail
    refine Calls.mono HI.out ?_
    rintro e w1 ⟨v0, τ1, rfl, hv0, hs1, he1, hk1⟩
    obtain ⟨T0, u0, rfl⟩ := hv0.iface
    obtain ⟨⟨x, hxb, hx⟩, f1, f2, f3⟩ := FIN.out w1 τ1 _ hs1 he1 hk1 hv0
    clear FIN HI hs1
    go_wp2
    go_ret
    exact ⟨_, _, rfl, hv0, f1, f2, f3⟩
end Go.Proofs.YtleenphlgbklmaaGreatDoor

namespace Go.Proofs.YtleenphlgbklmaaGreatDoor
open Go.RowKit

theorem eq_ptr (T E : TypeId) (n : Nat) (hu : Tryz.prog.underlying T = some (.pointer E)) (hs : (Tryz.prog.info? E).map (·.size) = some (n + 1)) (hc : (Tryz.prog.info? T).map (·.comparable) = some true) (w : World) (b c : Nat) (hb : ∃ cs e, w.heap[b]? = some (.cells cs e (0, 0))) (hd : ∃ cs e, w.heap[c]? = some (.cells cs e (0, 0))) :
    (Op.equal 156 (.iface T (.pointer (some ⟨b, 0, none⟩))) (.iface T (.pointer (some ⟨c, 0, none⟩)))).run Tryz.prog w = .ok (b == c) w := by
  obtain ⟨j, hj, hjs⟩ := Option.map_eq_some_iff.1 hs
  obtain ⟨i, hi, his⟩ := Option.map_eq_some_iff.1 hc
  obtain ⟨cs, e, hb⟩ := hb
  obtain ⟨cs', e', hd⟩ := hd
  have h : ∀ d : Nat, (Op.equalIn (d + 1) T (.pointer (some ⟨b, 0, none⟩)) (.pointer (some ⟨c, 0, none⟩))).run Tryz.prog w = .ok (b == c) w := fun d => by
    by_cases e : b = c
    · subst e
      simp [Op.equalIn, run_underlying hu, sizeOf, typeInfo, hj, hjs, run_sameAddr_same]
    · have ho := run_sameAddr_other (P := Tryz.prog) (w := w) (a := ⟨b, 0, none⟩) (b := ⟨c, 0, none⟩) (fun q => e (congrArg Addr.block q)) hb hd
      simp [Op.equalIn, run_underlying hu, sizeOf, typeInfo, hj, hjs, ho, e]
  have h2 : ∀ d : Nat, (Op.equalIn (d + 2) 156 (.iface T (.pointer (some ⟨b, 0, none⟩))) (.iface T (.pointer (some ⟨c, 0, none⟩)))).run Tryz.prog w = .ok (b == c) w := fun d => by
    rw [show d + 2 = (d + 1) + 1 from rfl]
    rw [Op.equalIn]
    simp [run_underlying Tryz.underlying156, typeInfo, hi, his, h d]
  exact h2 9998
theorem eq_kd (k : Kd) (w : World) (b c : Nat) (hb : ∃ cs e, w.heap[b]? = some (.cells cs e (0, 0))) (hd : ∃ cs e, w.heap[c]? = some (.cells cs e (0, 0))) :
    (Op.equal 156 (.iface k.tp (.pointer (some ⟨b, 0, none⟩))) (.iface k.tp (.pointer (some ⟨c, 0, none⟩)))).run Tryz.prog w = .ok (b == c) w := by
  cases k
  · exact eq_ptr _ 221 2 (by kernel_rfl) (by kernel_rfl) (by kernel_rfl) w b c hb hd
  · exact eq_ptr _ 225 1 (by kernel_rfl) (by kernel_rfl) (by kernel_rfl) w b c hb hd
  · exact eq_ptr _ 229 2 (by kernel_rfl) (by kernel_rfl) (by kernel_rfl) w b c hb hd
  · exact eq_ptr _ 233 2 (by kernel_rfl) (by kernel_rfl) (by kernel_rfl) w b c hb hd
theorem eq_no (T U : TypeId) (h : T ≠ U) (x y : Value) (w : World) : (Op.equal 156 (.iface T x) (.iface U y)).run Tryz.prog w = .ok false w := by
  have h2 : ∀ d : Nat, (Op.equalIn (d + 1) 156 (.iface T x) (.iface U y)).run Tryz.prog w = .ok false w := fun d => by
    rw [Op.equalIn]
    simp [run_underlying Tryz.underlying156, h]
  exact h2 9999
theorem Tryz.eqII (w : World) : (Op.equal 156 (.iface 343 (.agg #[.string { data := #[105, 110, 116] }])) (.iface 343 (.agg #[.string { data := #[105, 110, 116] }]))).run Tryz.prog w = .ok true w := by kernel_rfl
theorem Tryz.eqIB (w : World) : (Op.equal 156 (.iface 343 (.agg #[.string { data := #[105, 110, 116] }])) (.iface 343 (.agg #[.string { data := #[98, 111, 111, 108] }]))).run Tryz.prog w = .ok false w := by kernel_rfl
theorem Tryz.eqBI (w : World) : (Op.equal 156 (.iface 343 (.agg #[.string { data := #[98, 111, 111, 108] }])) (.iface 343 (.agg #[.string { data := #[105, 110, 116] }]))).run Tryz.prog w = .ok false w := by kernel_rfl
theorem Tryz.eqBB (w : World) : (Op.equal 156 (.iface 343 (.agg #[.string { data := #[98, 111, 111, 108] }])) (.iface 343 (.agg #[.string { data := #[98, 111, 111, 108] }]))).run Tryz.prog w = .ok true w := by kernel_rfl
theorem Kd.tp_inj {k l : Kd} (h : k ≠ l) : k.tp ≠ l.tp := by cases k <;> cases l <;> first | exact absurd rfl h | (intro e; cases e)
theorem Kd.tp_basic (k : Kd) : k.tp ≠ 343 := by cases k <;> (intro e; cases e)
theorem SW.cells {w : World} {ad : List Nat} {τ : St} (h : SW w ad τ) {i b : Nat} (hb : ad[i]? = some b) : ∃ cs e, w.heap[b]? = some (.cells cs e (0, 0)) := by
  obtain ⟨_, _, _, _, o, _, _, h1, _, h2⟩ := h.mem (List.mem_of_getElem? hb)
  obtain ⟨cs, e, rfl, _⟩ := h2.first
  exact ⟨cs, e, h1⟩
theorem nodup_get {ad : List Nat} (h : ad.Nodup) {i j b : Nat} (hi : ad[i]? = some b) (hj : ad[j]? = some b) : i = j := by
  obtain ⟨l1, e1⟩ := List.getElem?_eq_some_iff.1 hi
  obtain ⟨l2, e2⟩ := List.getElem?_eq_some_iff.1 hj
  have hp := List.pairwise_iff_getElem.1 h
  rcases Nat.lt_trichotomy i j with q | q | q
  · exact (hp i j l1 l2 q (by rw [e1, e2])).elim
  · exact q
  · exact (hp j i l2 l1 q (by rw [e1, e2])).elim
/-- two types are the same value just if they are the same. -/
theorem eq_tr {w : World} {ad : List Nat} {τ : St} (h : SW w ad τ) {r s : TR} {v u : Value} (hv : RV ad r v) (hu : RV ad s u) : (Op.equal 156 v u).run Tryz.prog w = .ok (r.eqb s) w := by
  cases r with
  | int =>
    rw [show v = _ from hv]
    cases s with
    | int => rw [show u = _ from hu]; exact Tryz.eqII w
    | bool => rw [show u = _ from hu]; exact Tryz.eqIB w
    | nd k i => obtain ⟨b, _, rfl⟩ := hu; exact eq_no _ _ k.tp_basic.symm _ _ w
  | bool =>
    rw [show v = _ from hv]
    cases s with
    | int => rw [show u = _ from hu]; exact Tryz.eqBI w
    | bool => rw [show u = _ from hu]; exact Tryz.eqBB w
    | nd k i => obtain ⟨b, _, rfl⟩ := hu; exact eq_no _ _ k.tp_basic.symm _ _ w
  | nd k i =>
    obtain ⟨b, hb, rfl⟩ := hv
    cases s with
    | int => rw [show u = _ from hu]; exact eq_no _ _ k.tp_basic _ _ w
    | bool => rw [show u = _ from hu]; exact eq_no _ _ k.tp_basic _ _ w
    | nd l j =>
      obtain ⟨c, hc, rfl⟩ := hu
      by_cases e : k = l
      · subst e
        rw [eq_kd k w b c (h.cells hb) (h.cells hc)]
        congr 1
        rw [Bool.eq_iff_iff, TR.eqb_iff, beq_iff_eq]
        constructor
        · intro e
          subst e
          rw [nodup_get h.inj hb hc]
        · intro e
          simp only [TR.nd.injEq, true_and] at e
          subst e
          rw [hb] at hc
          simpa using hc
      · rw [eq_no _ _ (Kd.tp_inj e)]
        congr 1
        symm
        rw [TR.eqb_ff]
        intro q
        simp only [TR.nd.injEq] at q
        exact e q.1
theorem ck_tr {w : World} {ad : List Nat} {r : TR} {v : Value} (hv : RV ad r v) (em : Bool) : (Instr.checkKey em 10000 156 v).run Tryz.prog w = .ok () w := by
  cases r with
  | int => rw [show v = _ from hv]; kernel_rfl
  | bool => rw [show v = _ from hv]; kernel_rfl
  | nd k i =>
    obtain ⟨b, _, rfl⟩ := hv
    cases k <;> kernel_rfl
end Go.Proofs.YtleenphlgbklmaaGreatDoor

namespace Go.Proofs.YtleenphlgbklmaaGreatDoor
open Go.RowKit

/-- a type's value, by where the nodes lie. -/
def kvf (ad : List Nat) : TR → Value
  | .int => .iface 343 (.agg #[.string { data := #[105, 110, 116] }])
  | .bool => .iface 343 (.agg #[.string { data := #[98, 111, 111, 108] }])
  | .nd k i => .iface k.tp (.pointer (some ⟨ad.getD i 0, 0, none⟩))
theorem RV.kvf {ad : List Nat} {r : TR} {v : Value} (h : RV ad r v) : v = kvf ad r := by
  cases r with
  | int => exact h
  | bool => exact h
  | nd k i =>
    obtain ⟨b, h1, h2⟩ := h
    rw [h2]
    simp [Go.Proofs.YtleenphlgbklmaaGreatDoor.kvf, List.getD, h1]
theorem RV.ok {ad : List Nat} {r : TR} {v : Value} (h : RV ad r v) : RV ad r (Go.Proofs.YtleenphlgbklmaaGreatDoor.kvf ad r) := h.kvf ▸ h
/-- a map whose keys are types. -/
def tEnts (ad : List Nat) : List (TR × Value) → Nat → List MapEntry
  | [], _ => []
  | e :: l, i => { key := kvf ad e.1, val := e.2, born := i } :: tEnts ad l (i + 1)
theorem tEnts_snoc (ad : List Nat) (l : List (TR × Value)) (e : TR × Value) : ∀ i, tEnts ad (l ++ [e]) i = tEnts ad l i ++ [{ key := kvf ad e.1, val := e.2, born := i + l.length }] := by
  induction l with
  | nil => intro i; simp [tEnts]
  | cons c l ih =>
    intro i
    have e : i + 1 + l.length = i + (l.length + 1) := by omega
    simp [tEnts, ih, e]
def askT (r : TR) : List (TR × Value) → Nat → Option (Nat × Value)
  | [], _ => none
  | e :: l, i => if r.eqb e.1 then some (i, e.2) else askT r l (i + 1)
structure TMp (w : World) (mb : Nat) (ad : List Nat) (l : List (TR × Value)) : Prop where
  mp : w.heap[mb]? = some (.map (tEnts ad l 0).toArray l.length)
  ok : ∀ e, e ∈ l → RV ad e.1 (kvf ad e.1)
theorem ask_tr {w : World} {ad : List Nat} {τ : St} (h : SW w ad τ) {r : TR} {v : Value} (hv : RV ad r v) (l : List (TR × Value)) : ∀ (i : Nat), (∀ e, e ∈ l → RV ad e.1 (kvf ad e.1)) → (Instr.findAsking 156 v (tEnts ad l i) i).run Tryz.prog w = .ok (askT r l i) w := by
  induction l with
  | nil => intro i _; rfl
  | cons c l ih =>
    intro i hl
    have he := eq_tr h hv (hl c (by simp))
    have hi := ih (i + 1) (fun x hx => hl x (by simp [hx]))
    simp only [tEnts, Instr.findAsking, Sem.run_bind, he, Result.andThen, askT]
    cases hbc : r.eqb c.1 with
    | true => simp
    | false => simp only [Bool.false_eq_true, if_false, hi]
theorem key_tr {w : World} {ad : List Nat} {τ : St} (h : SW w ad τ) {r : TR} {v : Value} (hv : RV ad r v) (l : List (TR × Value)) (hl : ∀ e, e ∈ l → RV ad e.1 (kvf ad e.1)) : (Instr.findKey 156 v (tEnts ad l 0)).run Tryz.prog w = .ok (askT r l 0) w := by
  have ha := ask_tr h hv l 0 hl
  obtain ⟨T, u, rfl⟩ := hv.iface
  obtain ⟨d, hd⟩ : ∃ d, Tryz.prog.underlying 156 = some d ∧ ∀ x y, Instr.sameNow d (.iface T u) y = x → x = none := ⟨_, Tryz.underlying156, fun x y e => by rw [← e]; rfl⟩
  cases l with
  | nil => simp [Instr.findKey, run_underlying hd.1, tEnts, Instr.findNow, askT]
  | cons c l =>
    have hf : Instr.findNow d (.iface T u) (tEnts ad (c :: l) 0) 0 = none := by
      simp only [tEnts, Instr.findNow]
      rw [hd.2 _ _ rfl]
    simp only [Instr.findKey, Sem.run_bind, run_underlying hd.1, Result.andThen, hf]
    exact ha
theorem run_tmlook {w : World} {ad : List Nat} {τ : St} (h : SW w ad τ) {r : TR} {v : Value} (hv : RV ad r v) {mb : Nat} {l : List (TR × Value)} (hm : TMp w mb ad l) (MT V : TypeId) (z : Value) (hu : Tryz.prog.underlying MT = some (.map 156 V)) (hz : (zeroValue V).run Tryz.prog w = .ok z w) :
    (Instr.lookup MT (.map (some mb)) v true).run Tryz.prog w = .ok (match askT r l 0 with | some x => .tuple #[x.2, .bool true] | none => .tuple #[z, .bool false]) w := by
  have hf := key_tr h hv l hm.ok
  have hc := fun e => ck_tr (w := w) hv e
  simp only [Instr.lookup, Sem.run_bind, run_underlying hu, MapKept.run_getObj_map hm.mp, Result.andThen, Sem.run_pure, hc, hf]
  cases askT r l 0 with
  | none => simp [hz, Result.andThen]
  | some j => simp
theorem run_tmput {w : World} {ad : List Nat} {τ : St} (h : SW w ad τ) {r : TR} {v : Value} (hv : RV ad r v) {mb : Nat} {l : List (TR × Value)} (hm : TMp w mb ad l) (MT V : TypeId) (x : Value) (hu : Tryz.prog.underlying MT = some (.map 156 V)) (hj : askT r l 0 = none) :
    (Instr.mapUpdate MT (.map (some mb)) v x).run Tryz.prog w = .ok () (mapSet w mb (.map (tEnts ad (l ++ [(r, x)]) 0).toArray (l.length + 1))) := by
  have hf := key_tr h hv l hm.ok
  rw [hj] at hf
  have hc := ck_tr (w := w) hv false
  have e : (tEnts ad l 0).toArray.push { key := v, val := x, born := l.length } = (tEnts ad (l ++ [(r, x)]) 0).toArray := by
    rw [tEnts_snoc]
    simp [hv.kvf]
  rw [← e]
  simp [Instr.mapUpdate, run_underlying hu, MapKept.run_getObj_map hm.mp, hc, hf, MapKept.run_setObj_map _ hm.mp, Result.andThen, mapSet]
theorem TMp.put {w : World} {mb : Nat} {ad : List Nat} {l : List (TR × Value)} (h : TMp w mb ad l) {r : TR} {v : Value} (hv : RV ad r v) (x : Value) : TMp (mapSet w mb (.map (tEnts ad (l ++ [(r, x)]) 0).toArray (l.length + 1))) mb ad (l ++ [(r, x)]) := by
  refine ⟨?_, ?_⟩
  · rw [mapSet_same _ _ _ (lt_of_block h.mp)]
    simp
  · intro e he
    simp at he
    rcases he with he | rfl
    · exact h.ok e he
    · exact hv.ok
theorem SW.mapSet {w : World} {ad : List Nat} {τ : St} (h : SW w ad τ) {mb : Nat} {es : Array MapEntry} {n : Nat} (hm : w.heap[mb]? = some (.map es n)) (o : Obj) : SW (Go.Proofs.YtleenphlgbklmaaGreatDoor.mapSet w mb o) ad τ := h.keep (fun b q hb hq => by
    obtain ⟨q', h1, cs, e, f, rfl, _⟩ := h.tb hb
    rw [mapSet_other _ _ _ _ (fun z => by rw [z, hm] at h1; cases h1)]
    exact hq)
end Go.Proofs.YtleenphlgbklmaaGreatDoor

namespace Go.Proofs.YtleenphlgbklmaaGreatDoor
open Go.RowKit

/-- a step of a text: tokens, or a piece that stands there already. -/
inductive Sp where
  | tk (t : ByteArray) | cp (f t : Nat)
def Sp.cells : Sp → List Value
  | .tk t => [.string t, .int .i64 0, .int .i64 0]
  | .cp f t => [.string { data := #[] }, .int .i64 f, .int .i64 t]
def spCells : List Sp → List Value
  | [] => []
  | s :: l => s.cells ++ spCells l
theorem spCells_snoc (l : List Sp) (s : Sp) : spCells (l ++ [s]) = spCells l ++ s.cells := by
  induction l with
  | nil => simp [spCells]
  | cons a l ih => simp [spCells, ih]
def Sp.put (acc : ByteArray) : Sp → ByteArray
  | .tk t => acc ++ t
  | .cp f t => acc ++ acc.extract f t
def decS (l : List Sp) : ByteArray := l.foldl Sp.put { data := #[] }
theorem decS_snoc (l : List Sp) (s : Sp) : decS (l ++ [s]) = s.put (decS l) := by simp [decS]
/-- a step that can be told from the other kind. -/
def Sp.ok (acc : ByteArray) : Sp → Prop
  | .tk t => 0 < t.size
  | .cp f t => f ≤ t ∧ t ≤ acc.size
/-- the text being laid out. -/
structure TL (w : World) (B b pm : Nat) (fv : Value) (sp : List Sp) : Prop where
  hB : B ≤ b
  cs : ∃ sv, w.heap[b]? = some (.cells #[fv, sv, .int .i64 (decS sp).size, .map (some pm)] 303 (0, 0)) ∧ w.ownsRow B 308 3 sv sp.length (spCells sp) ∧ sv.ownBlock ≠ some b ∧ sv.ownBlock ≠ some pm
  lt : (decS sp).size ≤ 2147483647 ∧ sp.length ≤ 1000000000
  good : ∀ (k : Nat) (s : Sp), sp[k]? = some s → s.ok (decS (sp.take k))
theorem TL.c {w : World} {B b pm : Nat} {fv : Value} {sp : List Sp} (h : TL w B b pm fv sp) : w.cell? ⟨b, 0, none⟩ = some fv ∧ w.cell? ⟨b, 2, none⟩ = some (.int .i64 (decS sp).size) ∧ w.cell? ⟨b, 3, none⟩ = some (.map (some pm)) ∧ ∃ sv, w.cell? ⟨b, 1, none⟩ = some sv := by
  obtain ⟨sv, h1, _⟩ := h.cs
  simp [World.cell?, h1]
def ST (B : Nat) (q : Nat) : Prop := B ≤ q
set_option maxRecDepth 20000 in
set_option maxHeartbeats 1000000 in
theorem lengthen_any (w : World) (b n m : Nat) (fv sv pv : Value) (hb : w.heap[b]? = some (.cells #[fv, sv, .int .i64 n, pv] 303 (0, 0))) (hm : n + m ≤ 2147483647) :
    Calls Tryz.prog 213 #[.pointer (some ⟨b, 0, none⟩), .int .i64 m] w fun e w' => e = .returned (.tuple #[]) ∧ w'.heap[b]? = some (.cells #[fv, sv, .int .i64 ((n + m : Nat) : Int), pv] 303 (0, 0)) ∧ Kq (· = b) w w' := by
  have c2 : w.cell? ⟨b, 2, none⟩ = some (.int .i64 n) := by simp [World.cell?, hb]
  have f2 : w.frozen? ⟨b, 2, none⟩ = false := by simp [World.frozen?, hb]
  go_enter Tryz.func213, Tryz.ntmps213
  go_wp2
  go_end0
  refine ⟨rfl, ?_, rfl, rfl, by simp, fun k hk hn => Below.heap_setCell _ _ _ _ hn⟩
  first
    | (simp [World.setCell, hb, Array.getElem?_modify]; done)
    | (simp [World.setCell, hb, Array.getElem?_modify]; omega)
theorem Tryz.infoStep : (Tryz.prog.info? 308).map (fun i => (i.zero, i.size, i.bytes)) = some (some (.agg #[.string { data := #[] }, .int .i64 0, .int .i64 0]), 3, 32) := by kernel_rfl
theorem TL.put {w w' : World} {B b pm : Nat} {fv : Value} {sp : List Sp} (h : TL w B b pm fv sp) (s : Sp) (hs : s.ok (decS sp)) (hB : B ≤ b) (sv : Value) (hb : w'.heap[b]? = some (.cells #[fv, sv, .int .i64 (decS (sp ++ [s])).size, .map (some pm)] 303 (0, 0))) (ho : w'.ownsRow B 308 3 sv (sp.length + 1) (spCells sp ++ s.cells)) (hn : sv.ownBlock ≠ some b ∧ sv.ownBlock ≠ some pm) (hl : (decS (sp ++ [s])).size ≤ 2147483647 ∧ sp.length + 1 ≤ 1000000000) : TL w' B b pm fv (sp ++ [s]) := by
  refine ⟨hB, ⟨sv, hb, ?_, hn.1, hn.2⟩, ⟨hl.1, by simpa using hl.2⟩, ?_⟩
  · rw [spCells_snoc]
    simpa using ho
  · intro k s' hk
    by_cases e : k < sp.length
    · rw [List.getElem?_append_left e] at hk
      rw [List.take_append_of_le_length (by omega)]
      exact h.good k s' hk
    · rw [List.getElem?_append_right (by omega)] at hk
      have e2 : k - sp.length = 0 := by
        have := (List.getElem?_eq_some_iff.1 hk).1
        simp at this
        omega
      rw [e2] at hk
      simp at hk
      subst hk
      have e3 : k = sp.length := by omega
      subst e3
      simpa using hs
set_option maxRecDepth 20000 in
set_option maxHeartbeats 1000000 in
theorem tks_any {w : World} {B b pm : Nat} {fv : Value} {sp : List Sp} (h : TL w B b pm fv sp) (hBw : B ≤ w.heap.size) (hpm : pm < w.heap.size) (hbp : pm ≠ b) (t : ByteArray) (ht : 0 < t.size) (hn : (decS sp).size + t.size ≤ 2147483647) (hl : sp.length + 1 ≤ 1000000000) :
    Calls Tryz.prog 214 #[.pointer (some ⟨b, 0, none⟩), .string t] w fun e w' => e = .returned (.tuple #[]) ∧ TL w' B b pm fv (sp ++ [.tk t]) ∧ Kq (ST B) w w' ∧ w'.heap[pm]? = w.heap[pm]? := by
  obtain ⟨sv, hb, ho, hn1, hn2⟩ := h.cs
  obtain ⟨i0, hi, hij⟩ := Option.map_eq_some_iff.1 Tryz.infoStep
  obtain ⟨hz0, hz1, hz2⟩ : i0.zero = some (.agg #[.string { data := #[] }, .int .i64 0, .int .i64 0]) ∧ i0.size = 3 ∧ i0.bytes = 32 := by
    have := hij
    simp only [Prod.mk.injEq] at this
    exact this
  have c1 : w.cell? ⟨b, 1, none⟩ = some sv := by simp [World.cell?, hb]
  have hbl := lt_of_block hb
  have hg : ∀ k, sv.ownBlock = some k → B ≤ k ∧ k < w.heap.size := fun k hk => ho.lt k hk
  have HL : Hid (∀ (w4 : World) (u : Value), w4.heap[b]? = some (.cells #[fv, u, .int .i64 (decS sp).size, .map (some pm)] 303 (0, 0)) → Calls Tryz.prog 213 #[.pointer (some ⟨b, 0, none⟩), .int .i64 (t.size : Nat)] w4 fun e w' => e = .returned (.tuple #[]) ∧ w'.heap[b]? = some (.cells #[fv, u, .int .i64 (((decS sp).size + t.size : Nat) : Int), .map (some pm)] 303 (0, 0)) ∧ Kq (· = b) w4 w') := fun w4 u h4 => lengthen_any w4 b _ _ fv u _ h4 hn
  have H : Hid (TL w B b pm fv sp) := h
  have HN : Hid (sv.ownBlock ≠ some b ∧ sv.ownBlock ≠ some pm) := ⟨hn1, hn2⟩
  have HG : Hid _ := hg
  have HB : Hid _ := h.hB
  clear h hn1 hn2 hg hij
  go_enter Tryz.func214, Tryz.ntmps214
  go_wp2_with (at_builtin; refine wpList_append_own2 _ rfl (.tmp 8) (.tmp 11) 301 rfl B 308 i0 (.agg #[.string { data := #[] }, .int .i64 0, .int .i64 0]) 3 32 Tryz.underlying301 hi hz0 hz1 hz2 rfl (by decide) _ _ _ rfl (ho.alloc _) ⟨w.heap.size, 0, none⟩ 1 1 [.string t, .int .i64 0, .int .i64 0] rfl rfl ?c1 ?c2 ?c3 ?c4 ?c5 (by decide) ?_)
  case c1 =>
    intro y u hy
    match y, hy with
    | 0, hy => simp at hy; subst hy; simp [Addr.add]
    | 1, hy => simp at hy; subst hy; simp [Addr.add]
    | 2, hy => simp at hy; subst hy; simp [Addr.add]
  case c2 =>
    intro u hu
    simp at hu
    rcases hu with rfl | rfl <;> rfl
  case c3 => unfold maxLen; omega
  case c4 => omega
  case c5 => simp; omega
  intro g cap w3 hown3 hgrow3 hfr3
  have hb3 : w3.heap[b]? = some (.cells #[fv, sv, .int .i64 (decS sp).size, .map (some pm)] 303 (0, 0)) := by
    rw [hgrow3.block b (by simp; omega) (fun e => HN.out.1 e.symm), Below.heap_alloc _ _ _ hbl]
    exact hb
  have hgb : g ≠ b ∧ g ≠ pm ∧ B ≤ g := by
    rcases hfr3 with e | e
    · exact ⟨fun z => HN.out.1 (by rw [← e, z]), fun z => HN.out.2 (by rw [← e, z]), (HG.out g e.symm).1⟩
    · (try simp at e)
      exact ⟨by omega, by omega, by omega⟩
  have x1 : w3.cell? ⟨b, 1, none⟩ = some sv := by simp [World.cell?, hb3]
  have x2 : w3.frozen? ⟨b, 1, none⟩ = false := by simp [World.frozen?, hb3]
  have hb4 : (w3.setCell ⟨b, 1, none⟩ (.slice (some ⟨g, 0, none⟩) (sp.length + 1) cap)).heap[b]? = some (.cells #[fv, .slice (some ⟨g, 0, none⟩) (sp.length + 1) cap, .int .i64 (decS sp).size, .map (some pm)] 303 (0, 0)) := by
    simp [World.setCell, hb3, Array.getElem?_modify]
  have HL4 : Hid _ := HL.out _ _ hb4
  have hsz3 := hgrow3.size
  have hpm4 : (w3.setCell ⟨b, 1, none⟩ (.slice (some ⟨g, 0, none⟩) (sp.length + 1) cap)).heap[pm]? = w.heap[pm]? := by
    rw [Below.heap_setCell _ _ _ _ hbp, hgrow3.block pm (by simp; omega) (fun e => HN.out.2 e.symm), Below.heap_alloc _ _ _ hpm]
  have HPM : Hid (pm < w3.heap.size ∧ (w3.setCell ⟨b, 1, none⟩ (.slice (some ⟨g, 0, none⟩) (sp.length + 1) cap)).heap[pm]? = w.heap[pm]?) := ⟨by simp at hsz3; omega, hpm4⟩
  have hk3 : Kq (ST B) w w3 := ⟨hgrow3.os, hgrow3.output, by simp at hsz3; omega, fun k hk hn => by
    rw [hgrow3.block k (by simp; omega) (fun e => hn (HG.out k e.symm).1), Below.heap_alloc _ _ _ hk]⟩
  have hk4 : Kq (ST B) w3 (w3.setCell ⟨b, 1, none⟩ (.slice (some ⟨g, 0, none⟩) (sp.length + 1) cap)) := ⟨rfl, rfl, by simp, fun k hk hn => Below.heap_setCell _ _ _ _ (fun e => hn (by show B ≤ k; rw [show k = b from e]; exact HB.out))⟩
  have ho4 : (w3.setCell ⟨b, 1, none⟩ (.slice (some ⟨g, 0, none⟩) (sp.length + 1) cap)).ownsRow B 308 3 (.slice (some ⟨g, 0, none⟩) (sp.length + 1) cap) (sp.length + 1) (spCells sp ++ [.string t, .int .i64 0, .int .i64 0]) := ownsRow_same hown3 (fun k hk => by
    have : k = g := by simpa [Value.ownBlock] using hk.symm
    subst this
    exact Below.heap_setCell _ _ _ _ hgb.1)
  have HO4 : Hid _ := ho4
  clear HL hown3 hgrow3 hfr3 hb3 ho4 HG HN hpm4
  go_wp2_with (go_at_call 213; refine Calls.mono HL4.out ?_; rintro e w5 ⟨rfl, hb5, hk5⟩)
  go_end0
  have hbe : (decS (sp ++ [.tk t])).size = (decS sp).size + t.size := by rw [decS_snoc]; simp [Sp.put]
  refine ⟨rfl, H.out.put (.tk t) ht HB.out _ (by rw [hbe]; exact hb5) (ownsRow_same HO4.out (fun k hk => ?_)) ⟨?_, ?_⟩ ⟨by rw [hbe]; exact hn, hl⟩, (hk3.trans hk4).trans ⟨hk5.os, hk5.output, hk5.size, fun k hk hq => hk5.block k hk (fun e => hq (by show B ≤ k; rw [show k = b from e]; exact HB.out))⟩, (hk5.block pm (by simpa using HPM.out.1) hbp).trans HPM.out.2⟩
  · have : k = g := by simpa [Value.ownBlock] using hk.symm
    subst this
    exact hk5.block k (World.ownsRow.lt HO4.out k (by simp [Value.ownBlock])).2 hgb.1
  · simpa [Value.ownBlock] using hgb.1
  · simpa [Value.ownBlock] using hgb.2.1
end Go.Proofs.YtleenphlgbklmaaGreatDoor

namespace Go.Proofs.YtleenphlgbklmaaGreatDoor
open Go.RowKit
set_option maxRecDepth 20000 in
set_option maxHeartbeats 1000000 in
theorem again_any {w : World} {B b pm : Nat} {fv : Value} {sp : List Sp} (h : TL w B b pm fv sp) (hBw : B ≤ w.heap.size) (hpm : pm < w.heap.size) (hbp : pm ≠ b) (f t : Nat) (hft : f ≤ t) (htl : t ≤ (decS sp).size) (hn : (decS sp).size + (t - f) ≤ 2147483647) (hl : sp.length + 1 ≤ 1000000000) :
    Calls Tryz.prog 183 #[.pointer (some ⟨b, 0, none⟩), .agg #[.int .i64 f, .int .i64 t]] w fun e w' => e = .returned (.tuple #[]) ∧ TL w' B b pm fv (sp ++ [.cp f t]) ∧ Kq (ST B) w w' ∧ w'.heap[pm]? = w.heap[pm]? := by
  obtain ⟨sv, hb, ho, hn1, hn2⟩ := h.cs
  obtain ⟨i0, hi, hij⟩ := Option.map_eq_some_iff.1 Tryz.infoStep
  obtain ⟨hz0, hz1, hz2⟩ : i0.zero = some (.agg #[.string { data := #[] }, .int .i64 0, .int .i64 0]) ∧ i0.size = 3 ∧ i0.bytes = 32 := by
    have := hij
    simp only [Prod.mk.injEq] at this
    exact this
  have c1 : w.cell? ⟨b, 1, none⟩ = some sv := by simp [World.cell?, hb]
  have hbl := lt_of_block hb
  have hg : ∀ k, sv.ownBlock = some k → B ≤ k ∧ k < w.heap.size := fun k hk => ho.lt k hk
  have HL : Hid (∀ (w4 : World) (u : Value), w4.heap[b]? = some (.cells #[fv, u, .int .i64 (decS sp).size, .map (some pm)] 303 (0, 0)) → Calls Tryz.prog 213 #[.pointer (some ⟨b, 0, none⟩), .int .i64 ((t : Int) - (f : Int))] w4 fun e w' => e = .returned (.tuple #[]) ∧ w'.heap[b]? = some (.cells #[fv, u, .int .i64 (((decS sp).size + (t - f) : Nat) : Int), .map (some pm)] 303 (0, 0)) ∧ Kq (· = b) w4 w') := fun w4 u h4 => by
    have e : ((t : Int) - (f : Int)) = ((t - f : Nat) : Int) := by omega
    rw [e]
    exact lengthen_any w4 b _ _ fv u _ h4 hn
  have H : Hid (TL w B b pm fv sp) := h
  have HN : Hid (sv.ownBlock ≠ some b ∧ sv.ownBlock ≠ some pm) := ⟨hn1, hn2⟩
  have HG : Hid _ := hg
  have HB : Hid _ := h.hB
  clear h hn1 hn2 hg hij
  have hpl : (w.alloc (.cells #[.int .i64 f, .int .i64 t] 306)).heap.size = w.heap.size + 1 := by simp
  have hbd : (w.alloc (.cells #[.int .i64 f, .int .i64 t] 306)).heap[b]? = some (.cells #[fv, sv, .int .i64 (decS sp).size, .map (some pm)] 303 (0, 0)) := (Below.heap_alloc _ _ _ hbl).trans hb
  have hod : (w.alloc (.cells #[.int .i64 f, .int .i64 t] 306)).ownsRow B 308 3 sv sp.length (spCells sp) := ho.alloc _
  have hpb : (w.alloc (.cells #[.int .i64 f, .int .i64 t] 306)).heap[w.heap.size]? = some (.cells #[.int .i64 f, .int .i64 t] 306 (0, 0)) := heap_alloc_new _ _
  have HGD : Hid (∀ k, sv.ownBlock = some k → B ≤ k ∧ k < w.heap.size) := HG
  have HKP : Hid ((w.alloc (.cells #[.int .i64 f, .int .i64 t] 306)).heap[pm]? = w.heap[pm]?) := Below.heap_alloc _ _ _ hpm
  have HKD : Hid (Kq (ST B) w (w.alloc (.cells #[.int .i64 f, .int .i64 t] 306))) := Kq.of_kept (Kept.alloc _ _)
  clear c1 ho HG hb
  go_enter Tryz.func183, Tryz.ntmps183
  go_wp2_with fail
  generalize hwd : w.alloc (.cells #[.int .i64 f, .int .i64 t] 306) = wd at *
  have c1 : wd.cell? ⟨b, 1, none⟩ = some sv := by simp [World.cell?, hbd]
  have hp0 : wd.cell? ⟨w.heap.size, 0, none⟩ = some (.int .i64 f) := by simp [World.cell?, hpb]
  have hp1 : wd.cell? ⟨w.heap.size, 1, none⟩ = some (.int .i64 t) := by simp [World.cell?, hpb]
  have HNW : Hid ((wd.drew.alloc (.cells #[.string { data := #[] }, .int .i64 f, .int .i64 t] 308)).heap[w.heap.size + 1]? = some (.cells #[.string { data := #[] }, .int .i64 f, .int .i64 t] 308 (0, 0))) := by
    show _ = _
    rw [← hpl]
    exact heap_alloc_new _ _
  have hown : wd.drew.ownsRow B 308 3 sv sp.length (spCells sp) := hod
  have HNC : Hid (∀ (q : Nat) (u : Value), [Value.string { data := #[] }, .int .i64 f, .int .i64 t][q]? = some u → (wd.drew.alloc (.cells #[.string { data := #[] }, .int .i64 f, .int .i64 t] 308)).cell? ((⟨w.heap.size + 1, 0, none⟩ : Addr).add q) = some u) := fun q u hq => by
    have hnw := HNW.out
    generalize wd.drew.alloc (.cells #[.string { data := #[] }, .int .i64 f, .int .i64 t] 308) = wx at *
    match q, hq with
    | 0, hq => simp at hq; subst hq; simp [Addr.add, World.cell?, hnw]
    | 1, hq => simp at hq; subst hq; simp [Addr.add, World.cell?, hnw]
    | 2, hq => simp at hq; subst hq; simp [Addr.add, World.cell?, hnw]
  have HX : Hid (∀ w3 : World, (wd.drew.alloc (.cells #[.string { data := #[] }, .int .i64 f, .int .i64 t] 308)).grownBy w3 sv.ownBlock → w3.heap[b]? = some (.cells #[fv, sv, .int .i64 (decS sp).size, .map (some pm)] 303 (0, 0)) ∧ w3.heap[w.heap.size]? = some (.cells #[.int .i64 f, .int .i64 t] 306 (0, 0)) ∧ w3.cell? ⟨b, 1, none⟩ = some sv ∧ w3.frozen? ⟨b, 1, none⟩ = false) := fun w3 hgrow3 => by
    have hb3 : w3.heap[b]? = some (.cells #[fv, sv, .int .i64 (decS sp).size, .map (some pm)] 303 (0, 0)) := by
      rw [hgrow3.block b (by simp; omega) (fun e => HN.out.1 e.symm), Below.heap_alloc _ _ _ (by show b < wd.heap.size; omega)]
      exact hbd
    refine ⟨hb3, ?_, by simp [World.cell?, hb3], by simp [World.frozen?, hb3]⟩
    rw [hgrow3.block w.heap.size (by simp; omega) (fun e => by have := HGD.out _ e.symm; omega), Below.heap_alloc _ _ _ (by show w.heap.size < wd.heap.size; omega)]
    exact hpb
  go_region_law (first
    | (refine step_append_own2 (by rfl) (.tmp 8) (.tmp 11) 301 (by rfl) B 308 i0 (.agg #[.string { data := #[] }, .int .i64 0, .int .i64 0]) 3 32 Tryz.underlying301 hi hz0 hz1 hz2 rfl (by decide) _ _ _ (by rfl) (hown.alloc _) ⟨w.heap.size + 1, 0, none⟩ 1 1 [.string { data := #[] }, .int .i64 f, .int .i64 t] (by rfl) rfl (fun q u hq => HNC.out q u hq) (fun u hu => by simp at hu; rcases hu with rfl | rfl | rfl <;> rfl) (by unfold maxLen; omega) (by omega) (by simp; omega) (by decide) ?_; intro g cap w3 hown3 hgrow3 hfr3; obtain ⟨hb3, hp3, x1, x2⟩ := HX.out w3 hgrow3))
  all_goals
    have hgb : g ≠ b ∧ g ≠ pm ∧ B ≤ g := by
      rcases hfr3 with e | e
      · exact ⟨fun z => HN.out.1 (by rw [← e, z]), fun z => HN.out.2 (by rw [← e, z]), (HGD.out g e.symm).1⟩
      · (try simp at e)
        exact ⟨by omega, by omega, by omega⟩
    have hb4 : (w3.setCell ⟨b, 1, none⟩ (.slice (some ⟨g, 0, none⟩) (sp.length + 1) cap)).heap[b]? = some (.cells #[fv, .slice (some ⟨g, 0, none⟩) (sp.length + 1) cap, .int .i64 (decS sp).size, .map (some pm)] 303 (0, 0)) := by
      simp [World.setCell, hb3, Array.getElem?_modify]
    have HL4 : Hid _ := HL.out _ _ hb4
    have hsz3 := hgrow3.size
    have hpm4 : (w3.setCell ⟨b, 1, none⟩ (.slice (some ⟨g, 0, none⟩) (sp.length + 1) cap)).heap[pm]? = w.heap[pm]? := by
      rw [Below.heap_setCell _ _ _ _ hbp, hgrow3.block pm (by simp; omega) (fun e => HN.out.2 e.symm)]
      exact (Below.heap_alloc wd.drew _ _ (by show pm < wd.heap.size; omega)).trans (HKP.out)
    have HPM : Hid (pm < w3.heap.size ∧ (w3.setCell ⟨b, 1, none⟩ (.slice (some ⟨g, 0, none⟩) (sp.length + 1) cap)).heap[pm]? = w.heap[pm]?) := ⟨by simp at hsz3; omega, hpm4⟩
    have hk3 : Kq (ST B) w w3 := HKD.out.trans ⟨hgrow3.os, hgrow3.output, by simp at hsz3; omega, fun k hk hn => by
      rw [hgrow3.block k (by simp; omega) (fun e => hn (HGD.out k e.symm).1)]
      exact Below.heap_alloc wd.drew _ _ hk⟩
    have hk4 : Kq (ST B) w3 (w3.setCell ⟨b, 1, none⟩ (.slice (some ⟨g, 0, none⟩) (sp.length + 1) cap)) := ⟨rfl, rfl, by simp, fun k hk hn => Below.heap_setCell _ _ _ _ (fun e => hn (by show B ≤ k; rw [show k = b from e]; exact HB.out))⟩
    have ho4 : (w3.setCell ⟨b, 1, none⟩ (.slice (some ⟨g, 0, none⟩) (sp.length + 1) cap)).ownsRow B 308 3 (.slice (some ⟨g, 0, none⟩) (sp.length + 1) cap) (sp.length + 1) (spCells sp ++ [.string { data := #[] }, .int .i64 f, .int .i64 t]) := ownsRow_same hown3 (fun k hk => by
      have : k = g := by simpa [Value.ownBlock] using hk.symm
      subst this
      exact Below.heap_setCell _ _ _ _ hgb.1)
    have HO4 : Hid _ := ho4
    have q0 : (w3.setCell ⟨b, 1, none⟩ (.slice (some ⟨g, 0, none⟩) (sp.length + 1) cap)).cell? ⟨w.heap.size, 0, none⟩ = some (.int .i64 f) := by
      rw [World.cell?_setCell_other _ _ _ _ (fun e => by injection e with e1; omega)]
      simp [World.cell?, hp3]
    have q1 : (w3.setCell ⟨b, 1, none⟩ (.slice (some ⟨g, 0, none⟩) (sp.length + 1) cap)).cell? ⟨w.heap.size, 1, none⟩ = some (.int .i64 t) := by
      rw [World.cell?_setCell_other _ _ _ _ (fun e => by injection e with e1; omega)]
      simp [World.cell?, hp3]
    have hs34 : (w3.setCell ⟨b, 1, none⟩ (.slice (some ⟨g, 0, none⟩) (sp.length + 1) cap)).heap.size = w3.heap.size := by simp
    generalize hw4 : w3.setCell ⟨b, 1, none⟩ (.slice (some ⟨g, 0, none⟩) (sp.length + 1) cap) = w4 at *
    clear HL hown3 hgrow3 hfr3 hb3 hp3 ho4 x1 x2 hpm4
    go_wp2_with (go_at_call 213; refine Calls.mono HL4.out ?_; rintro e w5 ⟨rfl, hb5, hk5⟩)
    go_end0
    have hbe : (decS (sp ++ [.cp f t])).size = (decS sp).size + (t - f) := by rw [decS_snoc]; simp [Sp.put]; omega
    refine ⟨rfl, H.out.put (.cp f t) ⟨hft, htl⟩ HB.out _ (by rw [hbe]; exact hb5) (ownsRow_same HO4.out (fun k hk => ?_)) ⟨?_, ?_⟩ ⟨by rw [hbe]; exact hn, hl⟩, (hk3.trans hk4).trans ⟨hk5.os, hk5.output, hk5.size, fun k hk hq => hk5.block k hk (fun e => hq (by show B ≤ k; rw [show k = b from e]; exact HB.out))⟩, (hk5.block pm (by have := HPM.out.1; omega) hbp).trans HPM.out.2⟩
    · have : k = g := by simpa [Value.ownBlock] using hk.symm
      subst this
      exact hk5.block k (World.ownsRow.lt HO4.out k (by simp [Value.ownBlock])).2 hgb.1
    · simpa [Value.ownBlock] using hgb.1
    · simpa [Value.ownBlock] using hgb.2.1
end Go.Proofs.YtleenphlgbklmaaGreatDoor
