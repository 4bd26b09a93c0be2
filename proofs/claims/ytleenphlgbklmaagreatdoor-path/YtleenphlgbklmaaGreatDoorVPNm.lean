import Derived.Defers
import Derived.Recover
import Derived.Test.YtleenphlgbklmaaGreatDoorVPStream
import Derived.Test.YtleenphlgbklmaaGreatDoorVPTyC
import Derived.Test.YtleenphlgbklmaaGreatDoorVPTyB
import Derived.Test.YtleenphlgbklmaaGreatDoorVPX
set_option linter.unusedVariables false
set_option linter.unusedSimpArgs false
namespace Go.Proofs.YtleenphlgbklmaaGreatDoor
open Go.RowKit

theorem Tryz.taRef (v : Value) (w : World) : (Instr.typeAssert (.iface 250 (.agg #[v])) 20 250 true).run Tryz.prog w = .ok (.tuple #[.agg #[v], .bool true]) w := by kernel_rfl
set_option maxRecDepth 20000 in
theorem prefused_any (T : TypeId) (u : Value) (w : World) : Calls Tryz.prog 95 #[.iface 250 (.agg #[.iface T u])] w fun e w' => e = .returned (.iface T u) ∧ w' = w.alloc (.cells #[.iface T u] 250) := by
  have hta := Tryz.taRef (.iface T u) w
  go_enter Tryz.func95, Tryz.ntmps95
  go_wp2
  go_ret
  exact ⟨rfl, rfl⟩
set_option maxRecDepth 20000 in
theorem catchT_idle (p q : Addr) (w : World) :
    CallsD Tryz.prog 108 #[.pointer (some p), .pointer (some q)] .returning w fun e u' w' => e = .returned (.tuple #[]) ∧ u' = .returning ∧ w' = w := by
  refine callsD_of_wpS Tryz.func108 rfl fun c₀ cs hu => ?_
  apply wpS_seq
  apply wpS_region
  simp [wpOpsS, go_sem, recoverD, hu, Tryz.ntmps108, Exit.thenS]
  refine wpS_of_wp ?_
  show Code.wp _ _ _ ⟨#[.pointer (some p), .pointer (some q), .nilIface, .nilIface, undef, undef, undef, undef], []⟩ w
  go_wp2
  cases c₀
  simp_all [bodyPostS, results, Tryz.results108]
set_option maxRecDepth 20000 in
theorem catchT_panicking (p q : Addr) (x y : Value) (T : TypeId) (z : Value) (older : List PanicEntry) (w : World) (hp : w.cell? p = some x) (hpf : w.frozen? p = false) (hq : w.cell? q = some y) (hqf : w.frozen? q = false) (hpq : p ≠ q) :
    CallsD Tryz.prog 108 #[.pointer (some p), .pointer (some q)] (.panicking ({ v := .iface 250 (.agg #[.iface T z]), recovered := false } :: older)) w fun e u' w' =>
      e = .returned (.tuple #[]) ∧ u' = .panicking ({ v := .iface 250 (.agg #[.iface T z]), recovered := true } :: older) ∧ w' = ((w.alloc (.cells #[.iface T z] 250)).setCell p .nilIface).setCell q (.iface T z) := by
  refine callsD_of_wpS Tryz.func108 rfl fun c₀ cs hu => ?_
  apply wpS_seq
  apply wpS_region
  simp [wpOpsS, go_sem, recoverD, hu, Tryz.ntmps108, Exit.thenS]
  refine wpS_of_wp ?_
  show Code.wp _ _ _ ⟨#[.pointer (some p), .pointer (some q), .iface 250 (.agg #[.iface T z]), .iface 250 (.agg #[.iface T z]), undef, undef, undef, undef], []⟩ w
  have hpl := World.block_lt_of_cell? _ _ hp
  have hql := World.block_lt_of_cell? _ _ hq
  have bp := Below.heap_alloc w (.cells #[.iface T z] 250) p.block hpl
  have bq := Below.heap_alloc w (.cells #[.iface T z] 250) q.block hql
  have hp1 := (World.cell?_of_block (a := p) bp).trans hp
  have hpf1 := (World.frozen?_of_block (a := p) bp).trans hpf
  have hq1 := (World.cell?_of_block (a := q) bq).trans hq
  have hqf1 := (World.frozen?_of_block (a := q) bq).trans hqf
  have hq2 : ((w.alloc (.cells #[.iface T z] 250)).setCell p .nilIface).cell? q = some y := (World.cell?_setCell_other _ _ _ _ hpq).trans hq1
  have hqf2 : ((w.alloc (.cells #[.iface T z] 250)).setCell p .nilIface).frozen? q = false := (World.frozen?_setCell _ _ _ _).trans hqf1
  have HR : Hid _ := prefused_any T z w
  go_wp2_with (go_at_call 95; refine Calls.mono HR.out ?_; rintro e w' ⟨rfl, hww⟩; rw [hww]; clear hww w')
  simp [bodyPostS, results, Tryz.results108]
set_option maxRecDepth 20000 in
theorem catchE_idle (p q : Addr) (w : World) :
    CallsD Tryz.prog 94 #[.pointer (some p), .pointer (some q)] .returning w fun e u' w' => e = .returned (.tuple #[]) ∧ u' = .returning ∧ w' = w := by
  refine callsD_of_wpS Tryz.func94 rfl fun c₀ cs hu => ?_
  apply wpS_seq
  apply wpS_region
  simp [wpOpsS, go_sem, recoverD, hu, Tryz.ntmps94, Exit.thenS]
  refine wpS_of_wp ?_
  show Code.wp _ _ _ ⟨#[.pointer (some p), .pointer (some q), .nilIface, .nilIface, undef, undef, undef, undef], []⟩ w
  go_wp2
  cases c₀
  simp_all [bodyPostS, results, Tryz.results94]
set_option maxRecDepth 20000 in
theorem catchE_panicking (p q : Addr) (x y : Value) (T : TypeId) (z : Value) (older : List PanicEntry) (w : World) (hp : w.cell? p = some x) (hpf : w.frozen? p = false) (hq : w.cell? q = some y) (hqf : w.frozen? q = false) (hpq : p ≠ q) :
    CallsD Tryz.prog 94 #[.pointer (some p), .pointer (some q)] (.panicking ({ v := .iface 250 (.agg #[.iface T z]), recovered := false } :: older)) w fun e u' w' =>
      e = .returned (.tuple #[]) ∧ u' = .panicking ({ v := .iface 250 (.agg #[.iface T z]), recovered := true } :: older) ∧ w' = ((w.alloc (.cells #[.iface T z] 250)).setCell p .nilIface).setCell q (.iface T z) := by
  refine callsD_of_wpS Tryz.func94 rfl fun c₀ cs hu => ?_
  apply wpS_seq
  apply wpS_region
  simp [wpOpsS, go_sem, recoverD, hu, Tryz.ntmps94, Exit.thenS]
  refine wpS_of_wp ?_
  show Code.wp _ _ _ ⟨#[.pointer (some p), .pointer (some q), .iface 250 (.agg #[.iface T z]), .iface 250 (.agg #[.iface T z]), undef, undef, undef, undef], []⟩ w
  have hpl := World.block_lt_of_cell? _ _ hp
  have hql := World.block_lt_of_cell? _ _ hq
  have bp := Below.heap_alloc w (.cells #[.iface T z] 250) p.block hpl
  have bq := Below.heap_alloc w (.cells #[.iface T z] 250) q.block hql
  have hp1 := (World.cell?_of_block (a := p) bp).trans hp
  have hpf1 := (World.frozen?_of_block (a := p) bp).trans hpf
  have hq1 := (World.cell?_of_block (a := q) bq).trans hq
  have hqf1 := (World.frozen?_of_block (a := q) bq).trans hqf
  have hq2 : ((w.alloc (.cells #[.iface T z] 250)).setCell p .nilIface).cell? q = some y := (World.cell?_setCell_other _ _ _ _ hpq).trans hq1
  have hqf2 : ((w.alloc (.cells #[.iface T z] 250)).setCell p .nilIface).frozen? q = false := (World.frozen?_setCell _ _ _ _).trans hqf1
  have HR : Hid _ := prefused_any T z w
  go_wp2_with (go_at_call 95; refine Calls.mono HR.out ?_; rintro e w' ⟨rfl, hww⟩; rw [hww]; clear hww w')
  simp [bodyPostS, results, Tryz.results94]
end Go.Proofs.YtleenphlgbklmaaGreatDoor

namespace Go.Proofs.YtleenphlgbklmaaGreatDoor
open Go.RowKit

theorem ptref_all (s : ByteArray) (kws : List ByteArray) (L : List Tk) (hE : PEnv s kws L) (hkw : kws = [{ data := #[105, 110, 116] }, { data := #[98, 111, 111, 108] }]) (n : Nat) : SPTyp s L n ∧ SPOne s L n := by
  have hki : { data := #[105, 110, 116] } ∈ kws := by rw [hkw]; simp
  have hkb : { data := #[98, 111, 111, 108] } ∈ kws := by rw [hkw]; simp
  induction n with
  | zero =>
    refine ⟨?_, ?_⟩
    · intro w rb mb k names vb t names' k' bad' h hv hok hne hM
      simp [arrowM] at hM
    · intro w rb mb k names vb t names' k' bad' h hv hok hne hM
      simp [oneM] at hM
  | succ n ih =>
    refine ⟨ptyp_step s kws L hE n ih.1 ih.2, ?_⟩
    intro w rb mb k names vb t names' k' bad' h hv hok hne hM
    simp only [oneM] at hM
    cases h0 : isM L { data := #[105, 110, 116] } k (-1)
    · rw [h0] at hM
      cases h1 : isM L { data := #[98, 111, 111, 108] } k (-1)
      · rw [h1] at hM
        cases h2 : isM L { data := #[110, 97, 109, 101] } k (-1)
        · cases h3 : isM L { data := #[91] } k (-1)
          · rw [h3] at hM
            cases h4 : isM L { data := #[40] } k (-1)
            · rw [h4] at hM
              simp only [Bool.false_eq_true, if_false, Option.some.injEq, Prod.mk.injEq] at hM
              obtain ⟨_, _, _, rfl⟩ := hM
              rw [(needB_false h2 (by omega)).1]
              exact pone_bad s kws L hE hki hkb w rb mb k names vb t names' k' h hv hok hne hkw h0 h1 h2 h3 h4
            · rw [h4] at hM
              simp only [Bool.false_eq_true, if_false, if_true] at hM
              obtain ⟨⟨x, n1, k1, b1⟩, q1, q2⟩ := Option.bind_eq_some_iff.1 hM
              exact pone_brk s kws L hE hki hkb w rb mb k names vb t names' k' bad' h hv hok hne hkw h0 h1 h2 h3 h4 (fun w1 hp1 hv1 => pbrk_any s kws L hE n ih.1 w1 rb mb k names vb x n1 k1 b1 t names' k' bad' hp1 hv1 hok hne h4 q1 q2)
          · rw [h3] at hM
            simp only [Bool.false_eq_true, if_false, if_true] at hM
            obtain ⟨⟨x, n1, k1, b1⟩, q1, q2⟩ := Option.bind_eq_some_iff.1 hM
            simp only [Option.some.injEq, Prod.mk.injEq] at q2
            obtain ⟨rfl, rfl, rfl, rfl⟩ := q2
            exact pone_list s kws L hE hki hkb w rb mb k names vb _ _ _ _ h hv hok hne hkw h0 h1 h2 h3 (fun w1 hp1 hv1 => plist_any s kws L hE n ih.1 w1 rb mb k names vb x n1 k1 b1 hp1 hv1 hok hne h3 q1)
        · have h3 : isM L { data := #[91] } k (-1) = false := by
            simp only [isM, Bool.and_eq_true] at h2
            simp only [isM]
            rw [(sameS_iff (tkAt L k).is { data := #[110, 97, 109, 101] }).1 h2.2]
            decide
          have h4 : isM L { data := #[40] } k (-1) = false := by
            simp only [isM, Bool.and_eq_true] at h2
            simp only [isM]
            rw [(sameS_iff (tkAt L k).is { data := #[110, 97, 109, 101] }).1 h2.2]
            decide
          rw [h3, h4] at hM
          simp only [Bool.false_eq_true, if_false, Option.some.injEq, Prod.mk.injEq] at hM
          obtain ⟨rfl, rfl, rfl, rfl⟩ := hM
          rw [(needB_true h2).1, (needB_true h2).2]
          exact pone_name s kws L hE hki hkb w rb mb k names vb h hv hok hne h0 h1 h2
      · rw [h1] at hM
        simp only [Bool.false_eq_true, if_false, if_true, Option.some.injEq, Prod.mk.injEq] at hM
        obtain ⟨rfl, rfl, rfl, rfl⟩ := hM
        exact pone_bool s kws L hE hki hkb w rb mb k names vb h hv hok hne h0 h1
    · rw [h0] at hM
      simp only [if_true, Option.some.injEq, Prod.mk.injEq] at hM
      obtain ⟨rfl, rfl, rfl, rfl⟩ := hM
      exact pone_int s kws L hE hki hkb w rb mb k names vb h hv hok hne h0
end Go.Proofs.YtleenphlgbklmaaGreatDoor

namespace Go.Proofs.YtleenphlgbklmaaGreatDoor

/-- the fault that stands in a state of the reader: one that was told, or the token that is none. -/
def bz (l : List Tk) (k : Nat) (bad : Int) : Int := if 0 ≤ bad then bad else if (tkAt l k).is = { data := #[110, 111, 110, 101] } then ((tkAt l k).loc : Int) else -1
section
variable {l : List Tk} {k : Nat} {bad : Int}
theorem bz_ge (h : 0 ≤ bad) : bz l k bad = bad := by unfold bz; rw [if_pos h]
theorem bz_none (h : bad < 0) (hn : (tkAt l k).is = { data := #[110, 111, 110, 101] }) : bz l k bad = (tkAt l k).loc := by unfold bz; rw [if_neg (by omega), if_pos hn]
theorem bz_neg (h : bz l k bad < 0) : bad < 0 ∧ (tkAt l k).is ≠ { data := #[110, 111, 110, 101] } := by
  unfold bz at h
  split at h
  · omega
  · split at h
    · omega
    · exact ⟨by omega, by assumption⟩
theorem bz_ok (h : bad < 0) (hn : (tkAt l k).is ≠ { data := #[110, 111, 110, 101] }) : bz l k bad = -1 := by unfold bz; rw [if_neg (by omega), if_neg hn]
theorem bz_self (h : 0 ≤ bz l k bad) : bz l k (bz l k bad) = bz l k bad := bz_ge h
theorem isM_bz {q : ByteArray} (h : 0 ≤ bz l k bad) (hq : q.data.toList ≠ ({ data := #[110, 111, 110, 101] } : ByteArray).data.toList) : isM l q k bad = false := by
  by_cases h1 : 0 ≤ bad
  · exact isM_geT h1
  · by_cases h2 : (tkAt l k).is = { data := #[110, 111, 110, 101] }
    · exact isM_none h2 hq
    · rw [bz_ok (by omega) h2] at h; omega
theorem need_bz {q : ByteArray} (h : 0 ≤ bz l k bad) (hq : q.data.toList ≠ ({ data := #[110, 111, 110, 101] } : ByteArray).data.toList) : takeK l q k bad = k ∧ needB l q k bad = bz l k bad := by
  have e := isM_bz h hq
  unfold takeK needB
  rw [e]
  refine ⟨rfl, ?_⟩
  by_cases h1 : 0 ≤ bad
  · rw [bz_ge h1, if_neg (by simp; omega)]
  · by_cases h2 : (tkAt l k).is = { data := #[110, 111, 110, 101] }
    · rw [bz_none (by omega) h2, if_pos (by simp; omega)]
    · rw [bz_ok (by omega) h2] at h; omega
theorem need_bz' {q : ByteArray} (h : 0 ≤ bz l k bad) (hq : q.data.toList ≠ ({ data := #[110, 111, 110, 101] } : ByteArray).data.toList) : bz l (takeK l q k bad) (needB l q k bad) = bz l k bad := by
  rw [(need_bz h hq).1, (need_bz h hq).2]; exact bz_self h
theorem dup_ge {names : List ByteArray} {s : ByteArray} {loc : Nat} (h : 0 ≤ bad) : dupB names s loc bad = bad := by
  unfold dupB
  rw [if_neg (by simp; omega)]
end

/-- a fault once told stays. -/
structure Stk (l : List Tk) (n : Nat) : Prop where
  ex : ∀ k bad x k' bad', expM l n k bad = some (x, k', bad') → 0 ≤ bz l k bad → bz l k' bad' = bz l k bad
  bo : ∀ names kids k bad ns' ks' k' bad', boundM l n names kids k bad = some (ns', ks', k', bad') → 0 ≤ bz l k bad → bz l k' bad' = bz l k bad
  an : ∀ names kids k bad ns' ks' k' bad', andM l n names kids k bad = some (ns', ks', k', bad') → 0 ≤ bz l k bad → bz l k' bad' = bz l k bad
  at' : ∀ k bad x k' bad', atomM l n k bad = some (x, k', bad') → 0 ≤ bz l k bad → bz l k' bad' = bz l k bad
  ap : ∀ x k bad x' k' bad', appM l n x k bad = some (x', k', bad') → 0 ≤ bz l k bad → bz l k' bad' = bz l k bad
theorem stk (l : List Tk) : ∀ n, Stk l n := by
  intro n
  induction n with
  | zero => exact ⟨fun _ _ _ _ _ h => by simp [expM] at h, fun _ _ _ _ _ _ _ _ h => by simp [boundM] at h, fun _ _ _ _ _ _ _ _ h => by simp [andM] at h, fun _ _ _ _ _ h => by simp [atomM] at h, fun _ _ _ _ _ _ h => by simp [appM] at h⟩
  | succ n ih =>
    refine ⟨?_, ?_, ?_, ?_, ?_⟩
    · intro k bad x k' bad' h hz
      simp only [expM, isM_bz hz (show ({ data := #[102, 117, 110] } : ByteArray).data.toList ≠ ({ data := #[110, 111, 110, 101] } : ByteArray).data.toList by decide), isM_bz hz (show ({ data := #[105, 102] } : ByteArray).data.toList ≠ ({ data := #[110, 111, 110, 101] } : ByteArray).data.toList by decide), isM_bz hz (show ({ data := #[108, 101, 116] } : ByteArray).data.toList ≠ ({ data := #[110, 111, 110, 101] } : ByteArray).data.toList by decide), Bool.false_eq_true, if_false] at h
      split at h
      · simp only [Option.some.injEq, Prod.mk.injEq] at h
        obtain ⟨_, rfl, rfl⟩ := h
        rfl
      · obtain ⟨⟨x1, k1, b1⟩, h1, h2⟩ := Option.bind_eq_some_iff.1 h
        have e := ih.at' _ _ _ _ _ h1 hz
        exact (ih.ap _ _ _ _ _ _ h2 (by simp only; omega)).trans e
    · intro names kids k bad ns' ks' k' bad' h hz
      simp only [boundM] at h
      obtain ⟨⟨x1, k1, b1⟩, h1, h2⟩ := Option.bind_eq_some_iff.1 h
      simp only [Option.some.injEq, Prod.mk.injEq] at h2
      obtain ⟨_, _, rfl, rfl⟩ := h2
      have e1 := need_bz hz (show ({ data := #[110, 97, 109, 101] } : ByteArray).data.toList ≠ ({ data := #[110, 111, 110, 101] } : ByteArray).data.toList by decide)
      rw [e1.1, e1.2, dup_ge hz] at h1
      have hz2 : 0 ≤ bz l k (bz l k bad) := by rw [bz_self hz]; exact hz
      have e2 := need_bz hz2 (show ({ data := #[61] } : ByteArray).data.toList ≠ ({ data := #[110, 111, 110, 101] } : ByteArray).data.toList by decide)
      rw [e2.1, e2.2, bz_self hz] at h1
      rw [ih.ex _ _ _ _ _ h1 hz2, bz_self hz]
    · intro names kids k bad ns' ks' k' bad' h hz
      simp only [andM, isM_bz hz (show ({ data := #[97, 110, 100] } : ByteArray).data.toList ≠ ({ data := #[110, 111, 110, 101] } : ByteArray).data.toList by decide), Bool.false_eq_true, if_false, Option.some.injEq, Prod.mk.injEq] at h
      obtain ⟨_, _, rfl, rfl⟩ := h
      rfl
    · intro k bad x k' bad' h hz
      simp only [atomM, isM_bz hz (show ({ data := #[110, 97, 109, 101] } : ByteArray).data.toList ≠ ({ data := #[110, 111, 110, 101] } : ByteArray).data.toList by decide), isM_bz hz (show ({ data := #[110, 117, 109] } : ByteArray).data.toList ≠ ({ data := #[110, 111, 110, 101] } : ByteArray).data.toList by decide), Bool.or_false, Bool.false_eq_true, if_false] at h
      obtain ⟨⟨x1, k1, b1⟩, h1, h2⟩ := Option.bind_eq_some_iff.1 h
      have e1 := need_bz hz (show ({ data := #[40] } : ByteArray).data.toList ≠ ({ data := #[110, 111, 110, 101] } : ByteArray).data.toList by decide)
      rw [e1.1, e1.2] at h1
      have hz2 : 0 ≤ bz l k (bz l k bad) := by rw [bz_self hz]; exact hz
      have e2 := ih.ex _ _ _ _ _ h1 hz2
      rw [bz_self hz] at e2
      have hz3 : 0 ≤ bz l k1 b1 := by omega
      simp only [isM_bz hz3 (show ({ data := #[44] } : ByteArray).data.toList ≠ ({ data := #[110, 111, 110, 101] } : ByteArray).data.toList by decide), Bool.false_eq_true, if_false, Option.some.injEq, Prod.mk.injEq] at h2
      obtain ⟨_, rfl, rfl⟩ := h2
      rw [need_bz' hz3 (by decide), e2]
    · intro x k bad x' k' bad' h hz
      simp only [appM, isM_bz hz (show ({ data := #[110, 97, 109, 101] } : ByteArray).data.toList ≠ ({ data := #[110, 111, 110, 101] } : ByteArray).data.toList by decide), isM_bz hz (show ({ data := #[110, 117, 109] } : ByteArray).data.toList ≠ ({ data := #[110, 111, 110, 101] } : ByteArray).data.toList by decide), isM_bz hz (show ({ data := #[40] } : ByteArray).data.toList ≠ ({ data := #[110, 111, 110, 101] } : ByteArray).data.toList by decide), Bool.or_false, Bool.false_eq_true, if_false, Option.some.injEq, Prod.mk.injEq] at h
      obtain ⟨_, rfl, rfl⟩ := h
      rfl
end Go.Proofs.YtleenphlgbklmaaGreatDoor

namespace Go.Proofs.YtleenphlgbklmaaGreatDoor
open Go.RowKit

/-- thrown at a place; but for the reader all is as it was. -/
def ThrX (w : World) (rb : Nat) (loc : Int) (e : Ending) (w' : World) : Prop := ∃ b : Nat, e = thrown (.iface 134 (.pointer (some ⟨b, 0, none⟩))) ∧ (∃ n : Nat, loc = n ∧ w'.heap[b]? = some (.cells #[.int .i64 n] 145 (0, 0))) ∧ w.heap.size ≤ b ∧ Kq (· = rb) w w'
/-- behind a step of the reader of expressions: an answer, and where it stands; or thrown, where the fault is. -/
def PRet (Q : World → Value → Prop) (w : World) (rb : Nat) (s : ByteArray) (L : List Tk) (k' : Nat) (bad' : Int) (e : Ending) (w' : World) : Prop :=
  (bz L k' bad' < 0 → bad' = -1 ∧ ∃ v, e = .returned v ∧ Q w' v ∧ PAt w' rb s L k' ∧ Kq (· = rb) w w') ∧ (0 ≤ bz L k' bad' → ThrX w rb (bz L k' bad') e w')
theorem Kq.refl (S : Nat → Prop) (w : World) : Kq S w w := ⟨rfl, rfl, Nat.le_refl _, fun _ _ _ => rfl⟩
theorem ThrX.before {w0 w w' : World} {rb : Nat} {z : Int} {e : Ending} (h : ThrX w rb z e w') (hk : Kq (· = rb) w0 w) : ThrX w0 rb z e w' := by
  obtain ⟨b, h1, h2, h3, h4⟩ := h
  exact ⟨b, h1, h2, Nat.le_trans hk.size h3, hk.trans h4⟩
theorem ThrX.of {w w' : World} {rb loc : Nat} {e : Ending} (h : ThrS w loc e w') : ThrX w rb loc e w' := by
  obtain ⟨b, h1, h2, h3, h4⟩ := h
  exact ⟨b, h1, ⟨loc, rfl, h2⟩, h3, Kq.of_kept h4⟩
theorem PRet.thr {Q : World → Value → Prop} {w w' : World} {rb : Nat} {s : ByteArray} {L : List Tk} {k' : Nat} {bad' : Int} {e : Ending} {z : Int} (h : ThrX w rb z e w') (hz : bz L k' bad' = z) (h0 : 0 ≤ z) : PRet Q w rb s L k' bad' e w' :=
  ⟨fun q => by omega, fun _ => by rw [hz]; exact h⟩
theorem PRet.ret {Q : World → Value → Prop} {w w' : World} {rb : Nat} {s : ByteArray} {L : List Tk} {k' : Nat} {v : Value} (hq : Q w' v) (hP : PAt w' rb s L k') (hK : Kq (· = rb) w w') : PRet Q w rb s L k' (-1) (.returned v) w' :=
  ⟨fun _ => ⟨rfl, v, rfl, hq, hP, hK⟩, fun q => by rw [bz_ok (by omega) hP.nn] at q; omega⟩
theorem PAt.lt' {w : World} {rb : Nat} {s : ByteArray} {L : List Tk} {k : Nat} (h : PAt w rb s L k) : rb < w.heap.size := by
  obtain ⟨kd, e, _⟩ := h.ex
  exact lt_of_block e
theorem need_true {L : List Tk} {q : ByteArray} {k : Nat} (h : isM L q k (-1) = true) : takeK L q k (-1) = k + 1 ∧ needB L q k (-1) = -1 := by
  unfold takeK needB
  rw [h]
  exact ⟨rfl, rfl⟩
theorem need_false {L : List Tk} {q : ByteArray} {k : Nat} (h : isM L q k (-1) = false) : takeK L q k (-1) = k ∧ needB L q k (-1) = (tkAt L k).loc := by
  unfold takeK needB
  rw [h]
  exact ⟨rfl, rfl⟩

section
variable {s : ByteArray} {kws : List ByteArray} {L : List Tk} (hE : PEnv s kws L) {w : World} {rb k : Nat}
include hE
theorem px_adv (h : PAt w rb s L k) (h1 : k + 1 < L.length) : Calls Tryz.prog 128 #[.pointer (some ⟨rb, 0, none⟩)] w fun e w' => PRet (fun _ v => v = .tuple #[]) w rb s L (k + 1) (-1) e w' := by
  by_cases hn : (tkAt L (k + 1)).is = { data := #[110, 111, 110, 101] }
  · refine (at_advN hE h h1 hn).mono ?_
    intro e w' ht
    exact PRet.thr (ThrX.of ht) (bz_none (by omega) hn) (by omega)
  · refine (at_adv hE h h1 hn).mono ?_
    rintro e w' ⟨rfl, hK, hP⟩
    exact PRet.ret rfl hP (Kq.of_kp hK (fun _ e => e))
theorem px_expect (h : PAt w rb s L k) (q : ByteArray) (hq : q ∈ kws ∨ isSgn q) (h1 : q.data.toList ≠ ({ data := #[101, 110, 100] } : ByteArray).data.toList) (h2 : q.data.toList ≠ ({ data := #[110, 111, 110, 101] } : ByteArray).data.toList) : Calls Tryz.prog 173 #[.pointer (some ⟨rb, 0, none⟩), .string q] w fun e w' => PRet (fun _ v => v = .tuple #[]) w rb s L (takeK L q k (-1)) (needB L q k (-1)) e w' := by
  cases hM : isM L q k (-1)
  · rw [(need_false hM).1, (need_false hM).2]
    refine (at_expB hE h q hq hM).mono ?_
    intro e w' ht
    exact PRet.thr (ThrX.of ht) (bz_ge (by omega)) (by omega)
  · rw [(need_true hM).1, (need_true hM).2]
    have hk := isM_lt hE.good h.lt hM h1 h2
    by_cases hn : (tkAt L (k + 1)).is = { data := #[110, 111, 110, 101] }
    · refine (at_expN hE h q hq hk hM hn).mono ?_
      intro e w' ht
      exact PRet.thr (ThrX.of ht) (bz_none (by omega) hn) (by omega)
    · refine (at_exp hE h q hq hk hM hn).mono ?_
      rintro e w' ⟨rfl, hK, hP⟩
      exact PRet.ret rfl hP (Kq.of_kp hK (fun _ e => e))
end
end Go.Proofs.YtleenphlgbklmaaGreatDoor

namespace Go.Proofs.YtleenphlgbklmaaGreatDoor
open Go.RowKit

/-- the words of expressions. -/
def wordsL : List ByteArray := [{ data := #[102, 117, 110] }, { data := #[108, 101, 116] }, { data := #[114, 101, 99] }, { data := #[97, 110, 100] }, { data := #[105, 110] }, { data := #[105, 102] }, { data := #[116, 104, 101, 110] }, { data := #[101, 108, 115, 101] }]
theorem wordsOk : KwOk wordsL := by
  refine ⟨fun w hw => ?_, fun w hw => ?_⟩
  · simp only [wordsL, List.mem_cons, List.not_mem_nil, or_false] at hw
    rcases hw with rfl | rfl | rfl | rfl | rfl | rfl | rfl | rfl <;> exact ⟨ne_of_list (by decide), ne_of_list (by decide), ne_of_list (by decide), ne_of_list (by decide)⟩
  · simp only [wordsL, List.mem_cons, List.not_mem_nil, or_false] at hw
    rcases hw with rfl | rfl | rfl | rfl | rfl | rfl | rfl | rfl <;> decide
theorem sameS_f {a b : ByteArray} (h : a ≠ b) : sameS a b = false := by
  rw [Bool.eq_false_iff]
  intro e
  exact h ((sameS_iff a b).1 e)
theorem wd_chr {t : ByteArray} (h : lowI (chr t 0) = true ∨ figI (chr t 0) = true) : Wd t := by
  have ne : ∀ q : ByteArray, lowI (chr q 0) = false → figI (chr q 0) = false → sameS t q = false := fun q h1 h2 => sameS_f (fun e => by
    rw [e, h1, h2] at h
    rcases h with h | h <;> cases h)
  exact ⟨by unfold opn; rw [ne _ (by decide) (by decide), ne _ (by decide) (by decide)]; rfl, by unfold cls; rw [ne _ (by decide) (by decide), ne _ (by decide) (by decide)]; rfl⟩
/-- the program's kind of a token, and the document's. -/
theorem tk_kind {s : ByteArray} {kws : List ByteArray} {L : List Tk} (hE : PEnv s kws L) {k kd0 : Nat} (hk : k < L.length) (hT : pTok s (tkAt L k).loc = some (kd0, (tkAt L k).s, (tkAt L k).loc + (tkAt L k).s.size)) :
    (((kd0 == 1) && !kwIn kws (tkAt L k).s) = sameS (tkAt L k).is { data := #[110, 97, 109, 101] }) ∧ ((kd0 == 2) = sameS (tkAt L k).is { data := #[110, 117, 109] }) ∧ ((tkAt L k).is = { data := #[110, 97, 109, 101] } ∨ (tkAt L k).is = { data := #[110, 117, 109] } → Wd (tkAt L k).s) := by
  have l := (tk_link hE.kw hE.eq k hk)
  have hle := l.1
  have l := l.2
  generalize tkAt L k = t at *
  cases l with
  | fin a b c d e =>
    rw [d] at hT
    simp only [Option.some.injEq, Prod.mk.injEq] at hT
    rw [← hT.1, b]
    refine ⟨by rw [sameS_f (ne_of_list (by decide))]; rfl, by rw [sameS_f (ne_of_list (by decide))]; rfl, fun q => ?_⟩
    rcases q with q | q <;> exact absurd q (ne_of_list (by decide))
  | bad a b => rw [b] at hT; cases hT
  | word a b c d =>
    have c' := c
    rw [c] at hT
    simp only [Option.some.injEq, Prod.mk.injEq] at hT
    rw [← hT.1, d]
    unfold pTok at c
    rw [if_pos a, if_pos b] at c
    split at c
    · simp only [Option.some.injEq, Prod.mk.injEq] at c
      obtain ⟨_, c2, c3⟩ := c
      have hw : Wd t.s := wd_chr (.inl (by rw [← c2, chr0_extract s _ _ (run_gt lfI s _ a (by simp [lfI, b])) (run_le lfI s _ (by omega)), b]))
      by_cases q : kwIn kws t.s = true
      · rw [q, if_pos rfl]
        have hn := hE.kw.ne _ (kwIn_mem q)
        exact ⟨by rw [sameS_f hn.1]; rfl, by rw [sameS_f hn.2.2.2]; rfl, fun _ => hw⟩
      · have q : kwIn kws t.s = false := by simpa using q
        rw [q, if_neg (by simp)]
        exact ⟨by rw [(sameS_iff _ _).2 rfl]; rfl, by rw [sameS_f (ne_of_list (by decide))]; rfl, fun _ => hw⟩
    · cases c
  | num a b c d e =>
    have d' := d
    rw [d] at hT
    simp only [Option.some.injEq, Prod.mk.injEq] at hT
    rw [← hT.1, e]
    unfold pTok at d
    rw [if_pos a, if_neg (by simp [b]), if_pos c] at d
    split at d
    · simp only [Option.some.injEq, Prod.mk.injEq] at d
      obtain ⟨_, c2, c3⟩ := d
      have hw : Wd t.s := wd_chr (.inr (by rw [← c2, chr0_extract s _ _ (run_gt figI s _ a c) (run_le figI s _ (by omega)), c]))
      exact ⟨by rw [sameS_f (ne_of_list (by decide))]; rfl, by rw [(sameS_iff _ _).2 rfl]; rfl, fun _ => hw⟩
    · cases d
  | sign a b c d e f =>
    rw [d] at hT
    simp only [Option.some.injEq, Prod.mk.injEq] at hT
    have h1 : t.is ≠ { data := #[110, 97, 109, 101] } ∧ t.is ≠ { data := #[110, 117, 109] } := by
      rw [e]
      rcases f with f | ⟨_, f, _⟩
      · rw [f]; exact ⟨ne_of_list (by decide), ne_of_list (by decide)⟩
      · rw [f]
        refine ⟨fun q => ?_, fun q => ?_⟩
        · have q := congrArg (fun x => x.size) q
          have q : (1 : Nat) = 4 := q
          omega
        · have q := congrArg (fun x => x.size) q
          have q : (1 : Nat) = 3 := q
          omega
    rw [← hT.1]
    exact ⟨by rw [sameS_f h1.1]; rfl, by rw [sameS_f h1.2]; rfl, fun q => by rcases q with q | q; exact absurd q h1.1; exact absurd q h1.2⟩
theorem isM_same {L : List Tk} {q : ByteArray} {k : Nat} : isM L q k (-1) = sameS (tkAt L k).is q := by
  unfold isM sameS
  rfl
end Go.Proofs.YtleenphlgbklmaaGreatDoor
