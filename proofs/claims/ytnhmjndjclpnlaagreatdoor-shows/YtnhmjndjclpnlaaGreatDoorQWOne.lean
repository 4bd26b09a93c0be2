import Derived.Test.YtnhmjndjclpnlaaGreatDoorQPX
import Derived.Test.YtnhmjndjclpnlaaGreatDoorQSaid
import Derived.Defers
import Derived.Recover
import Derived.Test.YtnhmjndjclpnlaaGreatDoorQTyMirror
import Derived.Test.YtnhmjndjclpnlaaGreatDoorQWTake
import Derived.Deep.DeepCutAuto
import Derived.Deep.LoopGhost
set_option linter.unusedVariables false
set_option linter.unusedSimpArgs false
namespace Go.Proofs.YtnhmjndjclpnlaaGreatDoor
open Go.RowKit

theorem PRd.c {w : World} {rb : Nat} {s : ByteArray} {kd i : Nat} {x : ByteArray} (h : PRd w rb s kd i x) : w.cell? ⟨rb, 0, none⟩ = some (.string s) ∧ w.cell? ⟨rb, 1, none⟩ = some (.int .i64 kd) ∧ w.cell? ⟨rb, 2, none⟩ = some (.int .i64 i) ∧ w.cell? ⟨rb, 3, none⟩ = some (.string x) := by
  have hh : w.heap[rb]? = some (.cells #[.string s, .int .i64 kd, .int .i64 i, .string x] 240 (0, 0)) := h
  refine ⟨?_, ?_, ?_, ?_⟩ <;> simp [World.cell?, hh]
/-- thrown: a fault at that place. -/
def ThrS (w : World) (loc : Nat) (e : Ending) (w' : World) : Prop := ∃ b, e = thrown (.iface 118 (.pointer (some ⟨b, 0, none⟩))) ∧ w'.heap[b]? = some (.cells #[.int .i64 loc] 129 (0, 0)) ∧ w.heap.size ≤ b ∧ Kept w w'

theorem pis_any (w : World) (rb : Nat) (s x t : ByteArray) (kd i : Nat) (h : PRd w rb s kd i x) :
    Calls Tryz.prog 119 #[.pointer (some ⟨rb, 0, none⟩), .string t] w fun e w' => e = .returned (.bool (x.toList == t.toList)) ∧ w' = w := by
  obtain ⟨c0, c1, c2, c3⟩ := h.c
  generalize hr : (x.toList == t.toList) = r
  go_enter Tryz.func119, Tryz.ntmps119
  go_wp2
  go_ret
  exact ⟨rfl, rfl⟩
theorem prr_any (w : World) (rb : Nat) (s x : ByteArray) (kd i : Nat) (h : PRd w rb s kd i x) :
    Calls Tryz.prog 124 #[.pointer (some ⟨rb, 0, none⟩)] w fun e w' => ThrS w i e w' := by
  obtain ⟨c0, c1, c2, c3⟩ := h.c
  clear h
  go_enter Tryz.func124, Tryz.ntmps124
  go_wp2_with (go_at_call 90; refine Calls.mono (prefuse_syn _ _) ?_; rintro e w' ⟨he, hww⟩; rw [hww, he]; clear hww he w' e)
  exact ⟨rfl, _, rfl, heap_alloc_new _ _, Nat.le_refl _, Kept.below ((Below.refl _ _).alloc (by simp) _)⟩
theorem pexpend_any (w : World) (rb : Nat) (s x : ByteArray) (kd i : Nat) (h : PRd w rb s kd i x) (hk : kd = 0) :
    Calls Tryz.prog 89 #[.pointer (some ⟨rb, 0, none⟩)] w fun e w' => e = .returned (.tuple #[]) ∧ w' = w := by
  obtain ⟨c0, c1, c2, c3⟩ := h.c
  subst hk
  clear h
  go_enter Tryz.func89, Tryz.ntmps89
  go_wp2
  go_end0
  exact ⟨rfl, rfl⟩
theorem pexpend_bad (w : World) (rb : Nat) (s x : ByteArray) (kd i : Nat) (h : PRd w rb s kd i x) (hk : kd ≠ 0) :
    Calls Tryz.prog 89 #[.pointer (some ⟨rb, 0, none⟩)] w fun e w' => ThrS w i e w' := by
  have HR : Hid _ := prr_any w rb s x kd i h
  obtain ⟨c0, c1, c2, c3⟩ := h.c
  have hz : ((kd : Int) == 0) = false := by simp; omega
  clear h
  go_enter Tryz.func89, Tryz.ntmps89
  go_wp2_with (go_at_call 124; refine Calls.mono HR.out ?_; rintro e w' ⟨b, he, hb1, hb2, hB⟩; rw [he]; clear he e)
  exact ⟨rfl, b, rfl, hb1, hb2, hB⟩
theorem pexpect_bad (w : World) (rb : Nat) (s x t : ByteArray) (kd i : Nat) (h : PRd w rb s kd i x) (hk : (x.toList == t.toList) = false) :
    Calls Tryz.prog 163 #[.pointer (some ⟨rb, 0, none⟩), .string t] w fun e w' => ThrS w i e w' := by
  have HR : Hid _ := prr_any w rb s x kd i h
  have HI : Hid _ := pis_any w rb s x t kd i h
  rw [hk] at HI
  clear h hk
  go_enter Tryz.func163, Tryz.ntmps163
  go_wp2_with (first | (go_at_call 119; refine Calls.mono HI.out ?_; rintro e w' ⟨rfl, hww⟩; rw [hww]; clear hww w') | (go_at_call 124; refine Calls.mono HR.out ?_; rintro e w' ⟨b, he, hb1, hb2, hB⟩; rw [he]; clear he e))
  exact ⟨rfl, b, rfl, hb1, hb2, hB⟩
theorem pexpect_some (w : World) (rb : Nat) (s x t : ByteArray) (kd i : Nat) (h : PRd w rb s kd i x) (hk : (x.toList == t.toList) = true) (hs : s.size ≤ 300) (hi : i + x.size ≤ s.size) (kd' : Nat) (y : ByteArray) (k' : Nat) (hT : pTok s (run blI s (i + x.size)) = some (kd', y, k')) :
    Calls Tryz.prog 163 #[.pointer (some ⟨rb, 0, none⟩), .string t] w fun e w' => e = .returned (.tuple #[]) ∧ Kp (· = rb) w w' ∧ PRd w' rb s kd' (run blI s (i + x.size)) y := by
  have HA : Hid _ := padv_some w rb s x kd i h hs hi kd' y k' hT
  have HI : Hid _ := pis_any w rb s x t kd i h
  rw [hk] at HI
  clear h hk hT
  go_enter Tryz.func163, Tryz.ntmps163
  go_wp2_with (first | (go_at_call 119; refine Calls.mono HI.out ?_; rintro e w' ⟨rfl, hww⟩; rw [hww]; clear hww w') | (go_at_call 118; refine Calls.mono HA.out ?_; rintro e w' ⟨rfl, hK, hP⟩))
  go_end0
  exact ⟨rfl, hK, hP⟩
theorem pexpect_none (w : World) (rb : Nat) (s x t : ByteArray) (kd i : Nat) (h : PRd w rb s kd i x) (hk : (x.toList == t.toList) = true) (hs : s.size ≤ 300) (hi : i + x.size ≤ s.size) (hT : pTok s (run blI s (i + x.size)) = none) :
    Calls Tryz.prog 163 #[.pointer (some ⟨rb, 0, none⟩), .string t] w fun e w' => ThrS w (run blI s (i + x.size)) e w' := by
  have HA : Hid _ := padv_none w rb s x kd i h hs hi hT
  have HI : Hid _ := pis_any w rb s x t kd i h
  rw [hk] at HI
  clear h hk hT
  generalize run blI s (i + x.size) = k0 at *
  go_enter Tryz.func163, Tryz.ntmps163
  go_wp2_with (first | (go_at_call 119; refine Calls.mono HI.out ?_; rintro e w' ⟨rfl, hww⟩; rw [hww]; clear hww w') | (go_at_call 118; refine Calls.mono HA.out ?_; rintro e w' ⟨b, he, hb1, hb2, hB⟩; rw [he]; clear he e))
  exact ⟨rfl, b, rfl, hb1, hb2, Kept.below hB⟩

theorem pnew_long {A : Nat → Addr} (s : ByteArray) (w : World) (hG : Glb A w) (h : 300 < s.size) (hm : s.size ≤ 9223372036854775807) :
    Calls Tryz.prog 87 #[.string s] w fun e w' => e = thrown (.iface 368 (.pointer (some (A 0)))) ∧ Kept w w' := by
  have c0 := hG.c0
  clear hG
  go_enter Tryz.func87, Tryz.ntmps87
  go_wp2_with (go_at_call 90; refine Calls.mono (prefuse_es _ _) ?_; rintro e w' ⟨he, hww⟩; rw [hww, he]; clear hww he w' e)
  exact ⟨rfl, rfl, Kept.refl _⟩
set_option maxHeartbeats 1000000 in
theorem pnew_some (s : ByteArray) (w : World) (hs : s.size ≤ 300) (kd' : Nat) (y : ByteArray) (k' : Nat) (hT : pTok s (run blI s 0) = some (kd', y, k')) :
    Calls Tryz.prog 87 #[.string s] w fun e w' => e = .returned (.pointer (some ⟨w.heap.size, 0, none⟩)) ∧ Kept w w' ∧ PRd w' w.heap.size s kd' (run blI s 0) y := by
  have h : PRd (w.alloc (.cells #[.string s, .int .i64 ((0 : Nat) : Int), .int .i64 ((0 : Nat) : Int), .string { data := #[] }] 240)) w.heap.size s 0 0 { data := #[] } := heap_alloc_new _ _
  have HA : Hid _ := padv_some _ w.heap.size s { data := #[] } 0 0 h hs (by simp; show 0 ≤ _; omega) kd' y k' hT
  clear h hT
  go_enter Tryz.func87, Tryz.ntmps87
  go_wp2_with fail
  refine Calls.mono HA.out ?_
  rintro e w2 ⟨rfl, hK, hP⟩
  have hKK : Kept w w2 := ⟨hK.os, hK.output, by have := hK.size; simp at this; omega, fun q hq => by
    rw [hK.block q (by simp; omega) (by show ¬ q = _; omega)]
    exact Below.heap_alloc _ _ _ hq⟩
  clear hK HA
  go_wp2
  go_ret
  exact ⟨rfl, hKK, hP⟩
set_option maxHeartbeats 1000000 in
theorem pnew_none (s : ByteArray) (w : World) (hs : s.size ≤ 300) (hT : pTok s (run blI s 0) = none) :
    Calls Tryz.prog 87 #[.string s] w fun e w' => ThrS w (run blI s 0) e w' := by
  have h : PRd (w.alloc (.cells #[.string s, .int .i64 ((0 : Nat) : Int), .int .i64 ((0 : Nat) : Int), .string { data := #[] }] 240)) w.heap.size s 0 0 { data := #[] } := heap_alloc_new _ _
  have HA : Hid _ := padv_none _ w.heap.size s { data := #[] } 0 0 h hs (by simp; show 0 ≤ _; omega) hT
  clear h hT
  go_enter Tryz.func87, Tryz.ntmps87
  go_wp2_with fail
  refine Calls.mono HA.out ?_
  rintro e w2 ⟨b, he, hb1, hb2, hB⟩
  rw [he]
  clear he HA
  go_wp2
  refine ⟨rfl, b, rfl, hb1, by simp at hb2; omega, ?_⟩
  exact Kept.trans (Kept.below ((Below.refl _ _).alloc (by simp) _)) (Kept.below hB)
end Go.Proofs.YtnhmjndjclpnlaaGreatDoor

namespace Go.Proofs.YtnhmjndjclpnlaaGreatDoor
open Go.RowKit

theorem Tryz.taRef (v : Value) (w : World) : (Instr.typeAssert (.iface 234 (.agg #[v])) 20 234 true).run Tryz.prog w = .ok (.tuple #[.agg #[v], .bool true]) w := by kernel_rfl
set_option maxRecDepth 20000 in
theorem prefused_any (T : TypeId) (u : Value) (w : World) : Calls Tryz.prog 86 #[.iface 234 (.agg #[.iface T u])] w fun e w' => e = .returned (.iface T u) ∧ w' = w.alloc (.cells #[.iface T u] 234) := by
  have hta := Tryz.taRef (.iface T u) w
  go_enter Tryz.func86, Tryz.ntmps86
  go_wp2
  go_ret
  exact ⟨rfl, rfl⟩
set_option maxRecDepth 20000 in
theorem catchT_idle (p q : Addr) (w : World) :
    CallsD Tryz.prog 99 #[.pointer (some p), .pointer (some q)] .returning w fun e u' w' => e = .returned (.tuple #[]) ∧ u' = .returning ∧ w' = w := by
  refine callsD_of_wpS Tryz.func99 rfl fun c₀ cs hu => ?_
  apply wpS_seq
  apply wpS_region
  simp [wpOpsS, go_sem, recoverD, hu, Tryz.ntmps99, Exit.thenS]
  refine wpS_of_wp ?_
  show Code.wp _ _ _ ⟨#[.pointer (some p), .pointer (some q), .nilIface, .nilIface, undef, undef, undef, undef], []⟩ w
  go_wp2
  cases c₀
  simp_all [bodyPostS, results, Tryz.results99]
set_option maxRecDepth 20000 in
theorem catchT_panicking (p q : Addr) (x y : Value) (T : TypeId) (z : Value) (older : List PanicEntry) (w : World) (hp : w.cell? p = some x) (hpf : w.frozen? p = false) (hq : w.cell? q = some y) (hqf : w.frozen? q = false) (hpq : p ≠ q) :
    CallsD Tryz.prog 99 #[.pointer (some p), .pointer (some q)] (.panicking ({ v := .iface 234 (.agg #[.iface T z]), recovered := false } :: older)) w fun e u' w' =>
      e = .returned (.tuple #[]) ∧ u' = .panicking ({ v := .iface 234 (.agg #[.iface T z]), recovered := true } :: older) ∧ w' = ((w.alloc (.cells #[.iface T z] 234)).setCell p .nilIface).setCell q (.iface T z) := by
  refine callsD_of_wpS Tryz.func99 rfl fun c₀ cs hu => ?_
  apply wpS_seq
  apply wpS_region
  simp [wpOpsS, go_sem, recoverD, hu, Tryz.ntmps99, Exit.thenS]
  refine wpS_of_wp ?_
  show Code.wp _ _ _ ⟨#[.pointer (some p), .pointer (some q), .iface 234 (.agg #[.iface T z]), .iface 234 (.agg #[.iface T z]), undef, undef, undef, undef], []⟩ w
  have hpl := World.block_lt_of_cell? _ _ hp
  have hql := World.block_lt_of_cell? _ _ hq
  have bp := Below.heap_alloc w (.cells #[.iface T z] 234) p.block hpl
  have bq := Below.heap_alloc w (.cells #[.iface T z] 234) q.block hql
  have hp1 := (World.cell?_of_block (a := p) bp).trans hp
  have hpf1 := (World.frozen?_of_block (a := p) bp).trans hpf
  have hq1 := (World.cell?_of_block (a := q) bq).trans hq
  have hqf1 := (World.frozen?_of_block (a := q) bq).trans hqf
  have hq2 : ((w.alloc (.cells #[.iface T z] 234)).setCell p .nilIface).cell? q = some y := (World.cell?_setCell_other _ _ _ _ hpq).trans hq1
  have hqf2 : ((w.alloc (.cells #[.iface T z] 234)).setCell p .nilIface).frozen? q = false := (World.frozen?_setCell _ _ _ _).trans hqf1
  have HR : Hid _ := prefused_any T z w
  go_wp2_with (go_at_call 86; refine Calls.mono HR.out ?_; rintro e w' ⟨rfl, hww⟩; rw [hww]; clear hww w')
  simp [bodyPostS, results, Tryz.results99]
set_option maxRecDepth 20000 in
theorem catchE_idle (p q : Addr) (w : World) :
    CallsD Tryz.prog 85 #[.pointer (some p), .pointer (some q)] .returning w fun e u' w' => e = .returned (.tuple #[]) ∧ u' = .returning ∧ w' = w := by
  refine callsD_of_wpS Tryz.func85 rfl fun c₀ cs hu => ?_
  apply wpS_seq
  apply wpS_region
  simp [wpOpsS, go_sem, recoverD, hu, Tryz.ntmps85, Exit.thenS]
  refine wpS_of_wp ?_
  show Code.wp _ _ _ ⟨#[.pointer (some p), .pointer (some q), .nilIface, .nilIface, undef, undef, undef, undef], []⟩ w
  go_wp2
  cases c₀
  simp_all [bodyPostS, results, Tryz.results85]
set_option maxRecDepth 20000 in
theorem catchE_panicking (p q : Addr) (x y : Value) (T : TypeId) (z : Value) (older : List PanicEntry) (w : World) (hp : w.cell? p = some x) (hpf : w.frozen? p = false) (hq : w.cell? q = some y) (hqf : w.frozen? q = false) (hpq : p ≠ q) :
    CallsD Tryz.prog 85 #[.pointer (some p), .pointer (some q)] (.panicking ({ v := .iface 234 (.agg #[.iface T z]), recovered := false } :: older)) w fun e u' w' =>
      e = .returned (.tuple #[]) ∧ u' = .panicking ({ v := .iface 234 (.agg #[.iface T z]), recovered := true } :: older) ∧ w' = ((w.alloc (.cells #[.iface T z] 234)).setCell p .nilIface).setCell q (.iface T z) := by
  refine callsD_of_wpS Tryz.func85 rfl fun c₀ cs hu => ?_
  apply wpS_seq
  apply wpS_region
  simp [wpOpsS, go_sem, recoverD, hu, Tryz.ntmps85, Exit.thenS]
  refine wpS_of_wp ?_
  show Code.wp _ _ _ ⟨#[.pointer (some p), .pointer (some q), .iface 234 (.agg #[.iface T z]), .iface 234 (.agg #[.iface T z]), undef, undef, undef, undef], []⟩ w
  have hpl := World.block_lt_of_cell? _ _ hp
  have hql := World.block_lt_of_cell? _ _ hq
  have bp := Below.heap_alloc w (.cells #[.iface T z] 234) p.block hpl
  have bq := Below.heap_alloc w (.cells #[.iface T z] 234) q.block hql
  have hp1 := (World.cell?_of_block (a := p) bp).trans hp
  have hpf1 := (World.frozen?_of_block (a := p) bp).trans hpf
  have hq1 := (World.cell?_of_block (a := q) bq).trans hq
  have hqf1 := (World.frozen?_of_block (a := q) bq).trans hqf
  have hq2 : ((w.alloc (.cells #[.iface T z] 234)).setCell p .nilIface).cell? q = some y := (World.cell?_setCell_other _ _ _ _ hpq).trans hq1
  have hqf2 : ((w.alloc (.cells #[.iface T z] 234)).setCell p .nilIface).frozen? q = false := (World.frozen?_setCell _ _ _ _).trans hqf1
  have HR : Hid _ := prefused_any T z w
  go_wp2_with (go_at_call 86; refine Calls.mono HR.out ?_; rintro e w' ⟨rfl, hww⟩; rw [hww]; clear hww w')
  simp [bodyPostS, results, Tryz.results85]
end Go.Proofs.YtnhmjndjclpnlaaGreatDoor

namespace Go.Proofs.YtnhmjndjclpnlaaGreatDoor
open Go.RowKit

/-- the tokens of a text stand one behind the other. -/
theorem toks_next (s : ByteArray) (kws : List ByteArray) (hk : ∀ w, w ∈ kws → w ≠ { data := #[110, 97, 109, 101] }) : ∀ n i, i ≤ s.size → ∀ k, k < (toksF s kws n i).length →
    (k = 0 → tkAt (toksF s kws n i) k = (tok1 s kws (run blI s i)).1) ∧
    ((tkAt (toksF s kws n i) k).loc + (tkAt (toksF s kws n i) k).s.size ≤ s.size) ∧
    (∃ j, j ≤ s.size ∧ tkAt (toksF s kws n i) k = (tok1 s kws j).1) ∧
    (k + 1 < (toksF s kws n i).length → tkAt (toksF s kws n i) (k + 1) = (tok1 s kws (run blI s ((tkAt (toksF s kws n i) k).loc + (tkAt (toksF s kws n i) k).s.size))).1)
  | 0, i, hi, k, hk0 => by simp [toksF] at hk0
  | n + 1, i, hi, k, hk0 => by
    have hr := run_le blI s i hi
    have hbd := clsK_bd s (run blI s i) hr
    have hsz : (s.extract (run blI s i) (clsK s (run blI s i))).size = clsK s (run blI s i) - run blI s i := by simp [ByteArray.size_extract]; omega
    have hloc : (tok1 s kws (run blI s i)).1.loc = run blI s i := rfl
    have hts : (tok1 s kws (run blI s i)).1.s = s.extract (run blI s i) (clsK s (run blI s i)) := rfl
    have hend : (tok1 s kws (run blI s i)).1.loc + (tok1 s kws (run blI s i)).1.s.size = (tok1 s kws (run blI s i)).2 := by
      rw [hloc, hts, hsz]
      show _ = clsK s (run blI s i)
      omega
    have hle2 : (tok1 s kws (run blI s i)).2 ≤ s.size := hbd.2
    cases hl : lastT (tok1 s kws (run blI s i)).1
    · have e : toksF s kws (n + 1) i = (tok1 s kws (run blI s i)).1 :: toksF s kws n (tok1 s kws (run blI s i)).2 := by rw [toksF, hl]; rfl
      rw [e] at hk0 ⊢
      cases k with
      | zero =>
        rw [tkAt_zero]
        refine ⟨fun _ => rfl, by rw [hend]; exact hle2, ⟨_, hr, rfl⟩, ?_⟩
        intro h1
        rw [tkAt_succ, hend]
        have := (toks_next s kws hk n _ hle2 0 (by simpa using h1)).1 rfl
        exact this
      | succ k =>
        rw [tkAt_succ, tkAt_succ]
        obtain ⟨_, a2, a3, a4⟩ := toks_next s kws hk n _ hle2 k (by simpa using hk0)
        exact ⟨fun q => by omega, a2, a3, fun h1 => a4 (by simpa using h1)⟩
    · have e : toksF s kws (n + 1) i = [(tok1 s kws (run blI s i)).1] := by rw [toksF, hl]; rfl
      rw [e] at hk0 ⊢
      have : k = 0 := by simpa using hk0
      subst this
      rw [tkAt_zero]
      exact ⟨fun _ => rfl, by rw [hend]; exact hle2, ⟨_, hr, rfl⟩, fun h1 => by simp at h1⟩

/-- keywords as they ought to be. -/
structure KwOk (kws : List ByteArray) : Prop where
  ne : ∀ w, w ∈ kws → w ≠ { data := #[110, 97, 109, 101] } ∧ w ≠ { data := #[110, 111, 110, 101] } ∧ w ≠ { data := #[101, 110, 100] } ∧ w ≠ { data := #[110, 117, 109] }
  low : ∀ w, w ∈ kws → lowI (chr w 0) = true
theorem kwIn_mem {kws : List ByteArray} {x : ByteArray} (h : kwIn kws x = true) : x ∈ kws := by
  unfold kwIn at h
  rw [List.any_eq_true] at h
  obtain ⟨w, hw, e⟩ := h
  rw [(sameS_iff x w).1 e]
  exact hw
theorem ne_of_list {a b : ByteArray} (h : a.data.toList ≠ b.data.toList) : a ≠ b := fun e => h (by rw [e])

section
variable {s : ByteArray} {kws : List ByteArray} (hK : KwOk kws) {L : List Tk} (hL : L = toksF s kws (s.size + 1) 0)
include hK hL
theorem tk_link (k : Nat) (h : k < L.length) : (tkAt L k).loc + (tkAt L k).s.size ≤ s.size ∧ Link s kws (tkAt L k).loc (tkAt L k) ((tkAt L k).loc + (tkAt L k).s.size) := by
  have hk : ∀ w, w ∈ kws → w ≠ { data := #[110, 97, 109, 101] } := fun w hw => (hK.ne w hw).1
  subst hL
  obtain ⟨_, a2, ⟨j, hj, e⟩, _⟩ := toks_next s kws hk (s.size + 1) 0 (Nat.zero_le _) k h
  have l := tok_link s kws hk j hj
  have hbd := clsK_bd s j hj
  have e1 : (tok1 s kws j).2 = (tok1 s kws j).1.loc + (tok1 s kws j).1.s.size := by
    show clsK s j = j + (s.extract j (clsK s j)).size
    simp [ByteArray.size_extract]
    omega
  refine ⟨a2, ?_⟩
  rw [e]
  rw [e1] at l
  exact l
theorem tk_tok (k : Nat) (h : k < L.length) (hn : (tkAt L k).is ≠ { data := #[110, 111, 110, 101] }) : ∃ kd, pTok s (tkAt L k).loc = some (kd, (tkAt L k).s, (tkAt L k).loc + (tkAt L k).s.size) := by
  have l := (tk_link hK hL k h).2
  cases l with
  | fin a b c d e =>
    refine ⟨0, ?_⟩
    rw [← e, c]
    exact d
  | bad a b => exact absurd a hn
  | word a b c d => exact ⟨1, c⟩
  | num a b c d e => exact ⟨2, d⟩
  | sign a b c d e f => exact ⟨3, d⟩
theorem tk_none (k : Nat) (h : k < L.length) (hn : (tkAt L k).is = { data := #[110, 111, 110, 101] }) : pTok s (tkAt L k).loc = none := by
  have l := (tk_link hK hL k h).2
  cases l with
  | fin a b c d e => rw [hn] at b; exact absurd b (ne_of_list (by decide))
  | bad a b => exact b
  | word a b c d =>
    exfalso
    rw [hn] at d
    split at d
    · rename_i q
      exact (hK.ne _ (kwIn_mem q)).2.1 d.symm
    · exact absurd d (ne_of_list (by decide))
  | num a b c d e => rw [hn] at e; exact absurd e (ne_of_list (by decide))
  | sign a b c d e f =>
    exfalso
    rw [hn] at e
    rcases f with f | ⟨h1, f, _⟩
    · rw [f] at e; exact absurd e (ne_of_list (by decide))
    · rw [f] at e
      have e := congrArg (fun x => x.size) e
      have e : (4 : Nat) = 1 := e
      omega
end

def isSgn (q : ByteArray) : Prop := q = { data := #[45, 62] } ∨ ∃ c : UInt8, q = ⟨#[c]⟩ ∧ isSign (c.toNat : Int) = true
theorem chr0_extract (s : ByteArray) (i k : Nat) (h : i < k) (hk : k ≤ s.size) : chr (s.extract i k) 0 = chr s i := by
  have h2 : 0 < (s.extract i k).size := by simp [ByteArray.size_extract]; omega
  unfold chr
  rw [dif_pos h2, dif_pos (by omega)]
  simp [ByteArray.getElem_extract]
theorem isSgn_chr {q : ByteArray} (h : isSgn q) : lowI (chr q 0) = false ∧ figI (chr q 0) = false := by
  rcases h with rfl | ⟨c, rfl, hc⟩
  · decide
  · have e : chr (⟨#[c]⟩ : ByteArray) 0 = (c.toNat : Int) := rfl
    rw [e]
    simp only [isSign, Bool.or_eq_true, beq_iff_eq] at hc
    simp only [lowI, figI]
    constructor
    · simp; omega
    · simp; omega
/-- a keyword or a sign is told by a token's text just as by its kind. -/
theorem is_text {s : ByteArray} {kws : List ByteArray} (hK : KwOk kws) {i : Nat} {t : Tk} {k : Nat} (l : Link s kws i t k) (hn : t.is ≠ { data := #[110, 111, 110, 101] }) (hk : k ≤ s.size) (q : ByteArray) (hq : q ∈ kws ∨ isSgn q) : (t.s.data.toList == q.data.toList) = (t.is.data.toList == q.data.toList) := by
  have hqne : q ≠ { data := #[110, 97, 109, 101] } ∧ q ≠ { data := #[101, 110, 100] } ∧ q ≠ { data := #[110, 117, 109] } ∧ q ≠ { data := #[] } := by
    rcases hq with hq | hq
    · have := hK.ne q hq
      refine ⟨this.1, this.2.2.1, this.2.2.2, fun e => ?_⟩
      have h2 := hK.low q hq
      rw [e] at h2
      exact absurd h2 (by decide)
    · rcases hq with rfl | ⟨c, rfl, _⟩
      · exact ⟨ne_of_list (by decide), ne_of_list (by decide), ne_of_list (by decide), ne_of_list (by decide)⟩
      · have hz : ∀ w : ByteArray, w.size ≠ 1 → (⟨#[c]⟩ : ByteArray) ≠ w := fun w hw e => hw (by rw [← e]; rfl)
        exact ⟨hz _ (by decide), hz _ (by decide), hz _ (by decide), hz _ (by decide)⟩
  have fa : ∀ a b : ByteArray, a ≠ b → (a.data.toList == b.data.toList) = false := fun a b h => by
    rw [Bool.eq_false_iff]
    intro e
    exact h ((sameS_iff a b).1 e)
  cases l with
  | fin a b c d e => rw [b, c, fa _ _ (Ne.symm hqne.2.2.2), fa _ _ (Ne.symm hqne.2.1)]
  | bad a b => exact absurd a hn
  | word a b c d =>
    by_cases hw : kwIn kws t.s = true
    · rw [if_pos hw] at d
      rw [d]
    · rw [if_neg hw] at d
      rw [d, fa _ _ (Ne.symm hqne.1)]
      refine fa _ _ (fun e => ?_)
      rcases hq with hq | hq
      · refine hw ?_
        unfold kwIn
        rw [List.any_eq_true]
        exact ⟨q, hq, (sameS_iff _ _).2 e⟩
      · have h1 := (isSgn_chr hq).1
        rw [← e] at h1
        unfold pTok at c
        rw [if_pos a, if_pos b] at c
        split at c
        · simp only [Option.some.injEq, Prod.mk.injEq] at c
          obtain ⟨_, c2, c3⟩ := c
          rw [← c2, chr0_extract s i _ (run_gt lfI s i a (by simp [lfI, b])) (run_le lfI s i (by omega)), b] at h1
          cases h1
        · cases c
  | num a b c d e =>
    rw [e, fa _ _ (Ne.symm hqne.2.2.1)]
    refine fa _ _ (fun e2 => ?_)
    unfold pTok at d
    rw [if_pos a, if_neg (by simp [b]), if_pos c] at d
    split at d
    · simp only [Option.some.injEq, Prod.mk.injEq] at d
      obtain ⟨_, c2, c3⟩ := d
      have h0 : chr t.s 0 = chr s i := by rw [← c2]; exact chr0_extract s i _ (run_gt figI s i a c) (run_le figI s i (by omega))
      rw [e2] at h0
      rcases hq with hq | hq
      · have h1 := hK.low q hq
        rw [h0, b] at h1
        cases h1
      · have h1 := (isSgn_chr hq).2
        rw [h0, c] at h1
        cases h1
    · cases d
  | sign a b c d e f => rw [e]
end Go.Proofs.YtnhmjndjclpnlaaGreatDoor

namespace Go.Proofs.YtnhmjndjclpnlaaGreatDoor
open Go.RowKit

section
variable {w w' w'' : World} {rb tb c : Nat} {l : List Tk} {k k' k'' : Nat} {bad bad' bad'' : Int} {nb B : Nat} {names names' names'' : List ByteArray}
theorem TEnd.take (h : TEnd w w' rb tb c l k bad nb B names) (hr : rb < B) (g : Kp (· = rb) w' w'') (r : Rd w'' rb tb c l k' bad') (hk : k' < l.length) : TEnd w w'' rb tb c l k' bad' nb B names :=
  ⟨h.kp.trans (g.mono fun q _ e => Or.inl e), h.tk.trans (TKeep.rd h.rd g), r, hk, h.nm.kp g hr⟩
theorem TEnd.start (h : Rd w rb tb c l k bad) (hk : k < l.length) (hn : Nm w nb B names) : TEnd w w rb tb c l k bad nb B names := ⟨Kp.refl _ _, TKeep.refl _, h, hk, hn⟩
theorem TEnd.trans (h : TEnd w w' rb tb c l k bad nb B names) (g : TEnd w' w'' rb tb c l k' bad' nb B names') : TEnd w w'' rb tb c l k' bad' nb B names' :=
  ⟨h.kp.trans g.kp, h.tk.trans g.tk, g.rd, g.kl, g.nm⟩
theorem TEnd.alloc (h : TEnd w w' rb tb c l k bad nb B names) (o : Obj) : TEnd w (w'.alloc o) rb tb c l k bad nb B names :=
  ⟨h.kp.alloc o, h.tk.trans (TKeep.alloc _ _), h.rd.alloc o, h.kl, h.nm.alloc o⟩
theorem TEnd.drew (h : TEnd w w' rb tb c l k bad nb B names) : TEnd w w'.drew rb tb c l k bad nb B names :=
  ⟨h.kp.drew, h.tk.trans (TKeep.drew _), h.rd.drew, h.kl, h.nm.drew⟩
end

set_option maxRecDepth 20000 in
set_option maxHeartbeats 2000000 in
theorem arr_step (l : List Tk) (hl : l.length ≤ 1000) (hG : Good l) (n : Nat) (hA : SArr l n) (hO : SOne l n) : SArr l (n + 1) := by
  intro w rb tb c k bad nb B names t names' k' bad' h hk hn hr ht hok hM
  simp only [arrowM] at hM
  obtain ⟨⟨x, n1, k1, b1⟩, h1, h2⟩ := Option.bind_eq_some_iff.1 hM
  obtain ⟨hk1, hok1⟩ := (tread_ok l hG n).2 _ _ _ _ _ _ _ h1 hk hok
  have H1 : Hid _ := h1
  have H2 : Hid _ := h2
  clear hM h1 h2
  go_enter Tryz.func40, Tryz.ntmps40
  go_wp2_with fail
  refine (hO w rb tb c k bad nb B names x n1 k1 b1 h hk hn hr ht hok H1.out).mono ?_
  rintro e w1 ⟨p, rfl, hx, E1⟩
  obtain ⟨pb, rfl⟩ := hx.ptr
  clear h hn
  go_wp2_with fail
  refine (take_any w1 rb tb c l k1 b1 _ E1.rd E1.kl hl).mono ?_
  rintro e w2 ⟨rfl, g2, r2⟩
  have hx2 := TRep.keep (TKeep.rd E1.rd g2) x hx
  by_cases hMa : isM l { data := #[45, 62] } k1 b1 = true
  · rw [takeK, if_pos hMa] at r2
    have hk2 := isM_lt hG hk1 hMa (by decide) (by decide)
    have E2 := E1.take hr g2 r2 hk2
    have q := H2.out
    simp only [hMa, if_true] at q
    obtain ⟨⟨y, n2, k3, b3⟩, h3, h4⟩ := Option.bind_eq_some_iff.1 q
    simp only [Option.some.injEq, Prod.mk.injEq] at h4
    obtain ⟨rfl, rfl, rfl, rfl⟩ := h4
    have H3 : Hid _ := h3
    rw [hMa]
    clear q h3 hMa H2 E1 g2 r2 hx
    go_wp2_with fail
    refine (hA w2 rb tb c (k1 + 1) b1 nb B n1 y n2 k3 b3 E2.rd E2.kl E2.nm hr ht hok1 H3.out).mono ?_
    rintro e w3 ⟨p2, rfl, hy, E3⟩
    obtain ⟨pb2, rfl⟩ := hy.ptr
    have hx3 := TRep.keep E3.tk x hx2
    go_wp2
    go_ret
    exact ⟨_, rfl, tnode2 { data := #[102, 117, 110] } hx3 hy, ((E2.trans E3).alloc _).alloc _⟩
  · have hMf : isM l { data := #[45, 62] } k1 b1 = false := by simpa using hMa
    rw [takeK, if_neg hMa] at r2
    have E2 := E1.take hr g2 r2 hk1
    have q := H2.out
    simp only [hMf, Bool.false_eq_true, if_false, Option.some.injEq, Prod.mk.injEq] at q
    obtain ⟨rfl, rfl, rfl, rfl⟩ := q
    rw [hMf]
    clear hMa hMf H2 E1 g2 r2 hx
    go_wp2_with fail
    go_ret
    exact ⟨_, rfl, hx2, E2⟩
end Go.Proofs.YtnhmjndjclpnlaaGreatDoor

namespace Go.Proofs.YtnhmjndjclpnlaaGreatDoor
open Go.RowKit

set_option maxRecDepth 20000 in
set_option maxHeartbeats 4000000 in
theorem one_int (l : List Tk) (hl : l.length ≤ 1000) (hG : Good l) (n : Nat) (hA : SArr l n) (w : World) (rb tb c k : Nat) (bad : Int) (nb B : Nat) (names : List ByteArray) (t : Ty) (names' : List ByteArray) (k' : Nat) (bad' : Int) (h : Rd w rb tb c l k bad) (hk : k < l.length) (hn : Nm w nb B names) (hr : rb < B) (ht : tb < B) (hok : NmOk l names) (h0 : isM l { data := #[105, 110, 116] } k bad = true) (hM : oneM l (n + 1) names k bad = some (t, names', k', bad')) :
    Calls Tryz.prog 74 #[.pointer (some ⟨rb, 0, none⟩), .pointer (some ⟨nb, 0, none⟩)] w fun e w' => ∃ p, e = .returned p ∧ TRep w' t p ∧ TEnd w w' rb tb c l k' bad' nb B names' := by
  have E0 := TEnd.start h hk hn
  simp only [oneM, h0, Bool.false_eq_true, if_false, if_true] at hM
  have HM : Hid _ := hM
  clear hM
  go_enter Tryz.func74, Tryz.ntmps74
  go_wp2_with fail
  refine (take_any _ rb tb c l k bad _ E0.rd E0.kl hl).mono ?_
  rintro e w1 ⟨rfl, g, r⟩
  have hk1 := isM_lt hG hk h0 (by decide) (by decide)
  rw [takeK, if_pos h0] at r
  rw [h0]
  have E := E0.take hr g r hk1
  clear g r E0 h0
  go_wp2
  go_ret
  have q := HM.out
  simp only [Option.some.injEq, Prod.mk.injEq] at q
  obtain ⟨rfl, rfl, rfl, rfl⟩ := q
  exact ⟨_, rfl, tleaf _ { data := #[105, 110, 116] } 0, E.alloc _⟩

set_option maxRecDepth 20000 in
set_option maxHeartbeats 4000000 in
theorem one_bool (l : List Tk) (hl : l.length ≤ 1000) (hG : Good l) (n : Nat) (hA : SArr l n) (w : World) (rb tb c k : Nat) (bad : Int) (nb B : Nat) (names : List ByteArray) (t : Ty) (names' : List ByteArray) (k' : Nat) (bad' : Int) (h : Rd w rb tb c l k bad) (hk : k < l.length) (hn : Nm w nb B names) (hr : rb < B) (ht : tb < B) (hok : NmOk l names) (h0 : isM l { data := #[105, 110, 116] } k bad = false) (h1 : isM l { data := #[98, 111, 111, 108] } k bad = true) (hM : oneM l (n + 1) names k bad = some (t, names', k', bad')) :
    Calls Tryz.prog 74 #[.pointer (some ⟨rb, 0, none⟩), .pointer (some ⟨nb, 0, none⟩)] w fun e w' => ∃ p, e = .returned p ∧ TRep w' t p ∧ TEnd w w' rb tb c l k' bad' nb B names' := by
  have E0 := TEnd.start h hk hn
  simp only [oneM, h0, h1, Bool.false_eq_true, if_false, if_true] at hM
  have HM : Hid _ := hM
  clear hM
  go_enter Tryz.func74, Tryz.ntmps74
  go_wp2_with fail
  refine (take_any _ rb tb c l k bad _ E0.rd E0.kl hl).mono ?_
  rintro e w1 ⟨rfl, g, r⟩
  rw [takeK, if_neg (by rw [h0]; decide)] at r
  rw [h0]
  have E1 := E0.take hr g r hk
  clear g r E0 h0
  go_wp2_with fail
  refine (take_any _ rb tb c l k bad _ E1.rd E1.kl hl).mono ?_
  rintro e w2 ⟨rfl, g, r⟩
  have hk1 := isM_lt hG hk h1 (by decide) (by decide)
  rw [takeK, if_pos h1] at r
  rw [h1]
  have E := E1.take hr g r hk1
  clear g r E1 h1
  go_wp2
  go_ret
  have q := HM.out
  simp only [Option.some.injEq, Prod.mk.injEq] at q
  obtain ⟨rfl, rfl, rfl, rfl⟩ := q
  exact ⟨_, rfl, tleaf _ { data := #[98, 111, 111, 108] } 0, E.alloc _⟩

set_option maxRecDepth 20000 in
set_option maxHeartbeats 4000000 in
theorem one_list (l : List Tk) (hl : l.length ≤ 1000) (hG : Good l) (n : Nat) (hA : SArr l n) (w : World) (rb tb c k : Nat) (bad : Int) (nb B : Nat) (names : List ByteArray) (t : Ty) (names' : List ByteArray) (k' : Nat) (bad' : Int) (h : Rd w rb tb c l k bad) (hk : k < l.length) (hn : Nm w nb B names) (hr : rb < B) (ht : tb < B) (hok : NmOk l names) (h0 : isM l { data := #[105, 110, 116] } k bad = false) (h1 : isM l { data := #[98, 111, 111, 108] } k bad = false) (h2 : isM l { data := #[91] } k bad = true) (hM : oneM l (n + 1) names k bad = some (t, names', k', bad')) :
    Calls Tryz.prog 74 #[.pointer (some ⟨rb, 0, none⟩), .pointer (some ⟨nb, 0, none⟩)] w fun e w' => ∃ p, e = .returned p ∧ TRep w' t p ∧ TEnd w w' rb tb c l k' bad' nb B names' := by
  have E0 := TEnd.start h hk hn
  simp only [oneM, h0, h1, h2, Bool.false_eq_true, if_false, if_true] at hM
  have HM : Hid _ := hM
  clear hM
  go_enter Tryz.func74, Tryz.ntmps74
  go_wp2_with fail
  refine (take_any _ rb tb c l k bad _ E0.rd E0.kl hl).mono ?_
  rintro e w1 ⟨rfl, g, r⟩
  rw [takeK, if_neg (by rw [h0]; decide)] at r
  rw [h0]
  have E1 := E0.take hr g r hk
  clear g r E0 h0
  go_wp2_with fail
  refine (take_any _ rb tb c l k bad _ E1.rd E1.kl hl).mono ?_
  rintro e w2 ⟨rfl, g, r⟩
  rw [takeK, if_neg (by rw [h1]; decide)] at r
  rw [h1]
  have E2 := E1.take hr g r hk
  clear g r E1 h1
  go_wp2_with fail
  refine (take_any _ rb tb c l k bad _ E2.rd E2.kl hl).mono ?_
  rintro e w3 ⟨rfl, g, r⟩
  have hk1 := isM_lt hG hk h2 (by decide) (by decide)
  rw [takeK, if_pos h2] at r
  rw [h2]
  have E := E2.take hr g r hk1
  clear g r E2 h2
  obtain ⟨⟨x, n1, k1, b1⟩, q1, q2⟩ := Option.bind_eq_some_iff.1 HM.out
  obtain ⟨hk2, hok2⟩ := (tread_ok l hG n).1 _ _ _ _ _ _ _ q1 hk1 hok
  simp only [Option.some.injEq, Prod.mk.injEq] at q2
  obtain ⟨rfl, rfl, rfl, rfl⟩ := q2
  have H1 : Hid _ := q1
  clear q1 HM
  go_wp2_with fail
  refine (hA _ rb tb c (k + 1) bad nb B names x n1 k1 b1 E.rd E.kl E.nm hr ht hok H1.out).mono ?_
  rintro e wa ⟨p, rfl, hx, Ea⟩
  obtain ⟨pb, rfl⟩ := hx.ptr
  have E2 := E.trans Ea
  clear E Ea
  go_wp2_with fail
  refine (need_any _ rb tb c l k1 b1 _ E2.rd E2.kl hl).mono ?_
  rintro e wb ⟨rfl, g, r⟩
  have hx2 := TRep.keep (TKeep.rd E2.rd g) x hx
  have E3 := E2.take hr g r (takeK_lt hG hk2 (by decide) (by decide))
  clear g r E2 hx
  go_wp2
  go_ret
  exact ⟨_, rfl, tnode1 { data := #[108, 105, 115, 116] } hx2, (E3.alloc _).alloc _⟩

set_option maxRecDepth 20000 in
set_option maxHeartbeats 4000000 in
theorem one_br (l : List Tk) (hl : l.length ≤ 1000) (hG : Good l) (n : Nat) (hA : SArr l n) (w : World) (rb tb c k : Nat) (bad : Int) (nb B : Nat) (names : List ByteArray) (t : Ty) (names' : List ByteArray) (k' : Nat) (bad' : Int) (h : Rd w rb tb c l k bad) (hk : k < l.length) (hn : Nm w nb B names) (hr : rb < B) (ht : tb < B) (hok : NmOk l names) (h0 : isM l { data := #[105, 110, 116] } k bad = false) (h1 : isM l { data := #[98, 111, 111, 108] } k bad = false) (h2 : isM l { data := #[91] } k bad = false) (h3 : isM l { data := #[40] } k bad = true) (hM : oneM l (n + 1) names k bad = some (t, names', k', bad')) :
    Calls Tryz.prog 74 #[.pointer (some ⟨rb, 0, none⟩), .pointer (some ⟨nb, 0, none⟩)] w fun e w' => ∃ p, e = .returned p ∧ TRep w' t p ∧ TEnd w w' rb tb c l k' bad' nb B names' := by
  have E0 := TEnd.start h hk hn
  simp only [oneM, h0, h1, h2, h3, Bool.false_eq_true, if_false, if_true] at hM
  have HM : Hid _ := hM
  clear hM
  go_enter Tryz.func74, Tryz.ntmps74
  go_wp2_with fail
  refine (take_any _ rb tb c l k bad _ E0.rd E0.kl hl).mono ?_
  rintro e w1 ⟨rfl, g, r⟩
  rw [takeK, if_neg (by rw [h0]; decide)] at r
  rw [h0]
  have E1 := E0.take hr g r hk
  clear g r E0 h0
  go_wp2_with fail
  refine (take_any _ rb tb c l k bad _ E1.rd E1.kl hl).mono ?_
  rintro e w2 ⟨rfl, g, r⟩
  rw [takeK, if_neg (by rw [h1]; decide)] at r
  rw [h1]
  have E2 := E1.take hr g r hk
  clear g r E1 h1
  go_wp2_with fail
  refine (take_any _ rb tb c l k bad _ E2.rd E2.kl hl).mono ?_
  rintro e w3 ⟨rfl, g, r⟩
  rw [takeK, if_neg (by rw [h2]; decide)] at r
  rw [h2]
  have E3 := E2.take hr g r hk
  clear g r E2 h2
  go_wp2_with fail
  refine (take_any _ rb tb c l k bad _ E3.rd E3.kl hl).mono ?_
  rintro e w4 ⟨rfl, g, r⟩
  have hk1 := isM_lt hG hk h3 (by decide) (by decide)
  rw [takeK, if_pos h3] at r
  rw [h3]
  have E := E3.take hr g r hk1
  clear g r E3 h3
  obtain ⟨⟨x, n1, k1, b1⟩, q1, q2⟩ := Option.bind_eq_some_iff.1 HM.out
  obtain ⟨hk2, hok2⟩ := (tread_ok l hG n).1 _ _ _ _ _ _ _ q1 hk1 hok
  have H1 : Hid _ := q1
  have H2 : Hid _ := q2
  clear q1 q2 HM
  go_wp2_with fail
  refine (hA _ rb tb c (k + 1) bad nb B names x n1 k1 b1 E.rd E.kl E.nm hr ht hok H1.out).mono ?_
  rintro e wa ⟨p, rfl, hx, Ea⟩
  obtain ⟨pb, rfl⟩ := hx.ptr
  have E2 := E.trans Ea
  clear E Ea
  go_wp2_with fail
  refine (take_any _ rb tb c l k1 b1 _ E2.rd E2.kl hl).mono ?_
  rintro e wb ⟨rfl, g, r⟩
  have hx2 := TRep.keep (TKeep.rd E2.rd g) x hx
  by_cases hMa : isM l { data := #[44] } k1 b1 = true
  · rw [takeK, if_pos hMa] at r
    have hk3 := isM_lt hG hk2 hMa (by decide) (by decide)
    have E3 := E2.take hr g r hk3
    have q := H2.out
    simp only [hMa, if_true] at q
    obtain ⟨⟨y, n2, k3, b3⟩, q3, q4⟩ := Option.bind_eq_some_iff.1 q
    obtain ⟨hk4, hok4⟩ := (tread_ok l hG n).1 _ _ _ _ _ _ _ q3 hk3 hok2
    simp only [Option.some.injEq, Prod.mk.injEq] at q4
    obtain ⟨rfl, rfl, rfl, rfl⟩ := q4
    have H3 : Hid _ := q3
    rw [hMa]
    clear q q3 H1 H2 g r E2 hx hMa
    go_wp2_with fail
    refine (hA _ rb tb c (k1 + 1) b1 nb B n1 y n2 k3 b3 E3.rd E3.kl E3.nm hr ht hok2 H3.out).mono ?_
    rintro e wc ⟨p2, rfl, hy, Eb⟩
    obtain ⟨pb2, rfl⟩ := hy.ptr
    have hx3 := TRep.keep Eb.tk x hx2
    have E4 := E3.trans Eb
    have hp := tnode2 { data := #[112, 97, 105, 114] } hx3 hy
    have E5 := (E4.alloc (.cells #[.pointer (some ⟨pb, 0, none⟩), .pointer (some ⟨pb2, 0, none⟩)] 33)).alloc (.cells #[.string { data := #[112, 97, 105, 114] }, .int .i64 0, .slice (some ⟨wc.heap.size, 0, none⟩) 2 2] 96)
    clear E3 Eb E4 hx2 hy hx3
    go_wp2_with fail
    generalize (wc.alloc (.cells #[.pointer (some ⟨pb, 0, none⟩), .pointer (some ⟨pb2, 0, none⟩)] 33)).alloc (.cells #[.string { data := #[112, 97, 105, 114] }, .int .i64 0, .slice (some ⟨wc.heap.size, 0, none⟩) 2 2] 96) = wd at *
    refine (need_any _ rb tb c l k3 b3 _ E5.rd E5.kl hl).mono ?_
    rintro e we ⟨rfl, g, r⟩
    have hx5 := TRep.keep (TKeep.rd E5.rd g) _ hp
    have E6 := E5.take hr g r (takeK_lt hG hk4 (by decide) (by decide))
    go_wp2
    go_ret
    exact ⟨_, rfl, hx5, E6⟩
  · have hMf : isM l { data := #[44] } k1 b1 = false := by simpa using hMa
    rw [takeK, if_neg hMa] at r
    have E3 := E2.take hr g r hk2
    have q := H2.out
    simp only [hMf, Bool.false_eq_true, if_false, Option.some.injEq, Prod.mk.injEq] at q
    obtain ⟨rfl, rfl, rfl, rfl⟩ := q
    rw [hMf]
    clear H1 H2 g r E2 hx hMa hMf
    go_wp2_with fail
    refine (need_any _ rb tb c l k1 b1 _ E3.rd E3.kl hl).mono ?_
    rintro e we ⟨rfl, g, r⟩
    have hx5 := TRep.keep (TKeep.rd E3.rd g) _ hx2
    have E6 := E3.take hr g r (takeK_lt hG hk2 (by decide) (by decide))
    go_wp2
    go_ret
    exact ⟨_, rfl, hx5, E6⟩
end Go.Proofs.YtnhmjndjclpnlaaGreatDoor
