import Derived.Test.YtleenphlgbklmabGreatDoorZPCm
import Derived.Test.YtleenphlgbklmabGreatDoorZWCanon
import Derived.Test.YtleenphlgbklmabGreatDoorZTGood
import Derived.Test.YtleenphlgbklmabGreatDoorZWDeep
import Derived.Defers
import Derived.Recover
import Derived.Test.YtleenphlgbklmabGreatDoorZPVar
import Derived.Test.YtleenphlgbklmabGreatDoorZPTyC
import Derived.Test.YtleenphlgbklmabGreatDoorZFault
set_option linter.unusedVariables false
set_option linter.unusedSimpArgs false
namespace Go.Proofs.YtleenphlgbklmabGreatDoor
open Go.RowKit

def SCg (gv : Gv) (f : X → List Bd → Option (Option (Nat × ByteArray))) : Prop := ∀ (names : List ByteArray) (kids : List X) (loc : Nat) (own : List Bd) (r : Option (Nat × ByteArray)), grpC f names kids own = some r → ∀ (w : World) (ad : List Nat) (eb : Nat) (p : Option Addr) (gm : Nat), PX w (fun _ => True) (.mk { data := #[114, 101, 99] } names kids loc) (.iface 250 (.pointer (some ⟨eb, 0, none⟩))) → CI w ad own gv p gm →
  Calls Tryz.prog 72 #[.iface 250 (.pointer (some ⟨eb, 0, none⟩)), .agg #[.pointer p, .map (some gm)]] w (ChO w r)
theorem chk_sx {rk : Bool} {gv : Gv} (hr : rk = true → ∀ f, SCk gv f → SCg gv f) : ∀ n, SCk gv (fun x own => chkF rk gv n x own) := by
  intro n
  induction n with
  | zero =>
    intro x own r h
    have h : (none : Option (Option (Nat × ByteArray))) = some r := h
    cases h
  | succ n ih =>
    intro x own r h w ad v p gm hx hT
    cases hx with
    | name m loc b hW _ hb =>
      have e : chkF rk gv (n + 1) (.mk { data := #[110, 97, 109, 101] } [m] [] loc) own = match findF m gv own with | some _ => some none | none => if m.size ≤ 1000 then some (some (loc, m)) else none := rfl
      simp only [e] at h
      split at h
      · rename_i q hq
        simp only [Option.some.injEq] at h
        subst h
        exact c_name_ok hT hb (by rw [hq]; rfl)
      · rename_i hq
        split at h
        · rename_i hl
          simp only [Option.some.injEq] at h
          subst h
          exact c_name_no hT (by omega) hb (by rw [hq]; rfl)
        · simp at h
    | num m loc b hW _ hb =>
      have e : chkF rk gv (n + 1) (.mk { data := #[110, 117, 109] } [m] [] loc) own = some none := rfl
      simp only [e, Option.some.injEq] at h
      subst h
      exact c_num
    | fn m x loc b q hW _ hb hq => exact c_fun ih h hT hb hq
    | ite x y z loc b q r s _ hb hq hr hs => exact c_if ih h hT hb hq hr hs
    | lt m x y loc b q r hW _ hb hq hr => exact c_let ih h hT hb hq hr
    | app x y loc b q r _ hb hq hr => exact c_app ih h hT hb hq hr
    | pair x y loc b q r _ hb hq hr => exact c_pair ih h hT hb hq hr
    | rc names kids y loc b nv vv q ps h1 h2 h3 h4 h5 h6 h7 h8 h9 h10 h11 h12 =>
      have e : chkF rk gv (n + 1) (.mk { data := #[114, 101, 99] } names (kids ++ [y]) loc) own = if rk = true then grpC (fun x own => chkF rk gv n x own) names (kids ++ [y]) own else none := by
        cases rk <;> rfl
      simp only [e] at h
      split at h
      · rename_i hrk
        exact hr hrk _ ih names _ loc own r h w ad b p gm (.rc names kids y loc b nv vv q ps h1 h2 h3 h4 h5 h6 h7 h8 h9 h10 h11 h12) hT
      · simp at h
end Go.Proofs.YtleenphlgbklmabGreatDoor

namespace Go.Proofs.YtleenphlgbklmabGreatDoor

def End2 (r : List UInt8) : Prop := r = [] ∨ ∃ c q, r = c :: q ∧ (c = 93 ∨ c = 41 ∨ c = 44 ∨ c = 32)
/-- the text of a type, as bytes; of one at the left of an arrow. -/
def sT (names : List ByteArray) (t : Ty) : List UInt8 := (shT names t).data.toList
def isArr (t : Ty) : Bool := t.kind.data.toList == ({ data := #[102, 117, 110] } : ByteArray).data.toList
def lT (names : List ByteArray) (t : Ty) : List UInt8 := if isArr t then 40 :: (sT names t ++ [41]) else sT names t
section
variable {names : List ByteArray}
def QA (names : List ByteArray) (t : Ty) : Prop := ∀ u r s, WT names.length u → End2 r → End2 s → lT names t ++ r = lT names u ++ s → t = u ∧ r = s
end
end Go.Proofs.YtleenphlgbklmabGreatDoor

namespace Go.Proofs.YtleenphlgbklmabGreatDoor
open Go.RowKit

theorem Tryz.taRef (v : Value) (w : World) : (Instr.typeAssert (.iface 185 (.agg #[v])) 20 185 true).run Tryz.prog w = .ok (.tuple #[.agg #[v], .bool true]) w := by kernel_rfl
set_option maxRecDepth 20000 in
theorem prefused_any (T : TypeId) (u : Value) (w : World) : Calls Tryz.prog 49 #[.iface 185 (.agg #[.iface T u])] w fun e w' => e = .returned (.iface T u) ∧ w' = w.alloc (.cells #[.iface T u] 185) := by
  have hta := Tryz.taRef (.iface T u) w
  go_enter Tryz.func49, Tryz.ntmps49
  go_wp2
  go_ret
  exact ⟨rfl, rfl⟩
set_option maxRecDepth 20000 in
theorem catchT_idle (p q : Addr) (w : World) :
    CallsD Tryz.prog 48 #[.pointer (some p), .pointer (some q)] .returning w fun e u' w' => e = .returned (.tuple #[]) ∧ u' = .returning ∧ w' = w := by
  refine callsD_of_wpS Tryz.func48 rfl fun c₀ cs hu => ?_
  apply wpS_seq
  apply wpS_region
  simp [wpOpsS, go_sem, recoverD, hu, Tryz.ntmps48, Exit.thenS]
  refine wpS_of_wp ?_
  show Code.wp _ _ _ ⟨#[.pointer (some p), .pointer (some q), .nilIface, .nilIface, undef, undef, undef, undef], []⟩ w
  go_wp2
  cases c₀
  simp_all [bodyPostS, results, Tryz.results48]
set_option maxRecDepth 20000 in
theorem catchT_panicking (p q : Addr) (x y : Value) (T : TypeId) (z : Value) (older : List PanicEntry) (w : World) (hp : w.cell? p = some x) (hpf : w.frozen? p = false) (hq : w.cell? q = some y) (hqf : w.frozen? q = false) (hpq : p ≠ q) :
    CallsD Tryz.prog 48 #[.pointer (some p), .pointer (some q)] (.panicking ({ v := .iface 185 (.agg #[.iface T z]), recovered := false } :: older)) w fun e u' w' =>
      e = .returned (.tuple #[]) ∧ u' = .panicking ({ v := .iface 185 (.agg #[.iface T z]), recovered := true } :: older) ∧ w' = ((w.alloc (.cells #[.iface T z] 185)).setCell p .nilIface).setCell q (.iface T z) := by
  refine callsD_of_wpS Tryz.func48 rfl fun c₀ cs hu => ?_
  apply wpS_seq
  apply wpS_region
  simp [wpOpsS, go_sem, recoverD, hu, Tryz.ntmps48, Exit.thenS]
  refine wpS_of_wp ?_
  show Code.wp _ _ _ ⟨#[.pointer (some p), .pointer (some q), .iface 185 (.agg #[.iface T z]), .iface 185 (.agg #[.iface T z]), undef, undef, undef, undef], []⟩ w
  have hpl := World.block_lt_of_cell? _ _ hp
  have hql := World.block_lt_of_cell? _ _ hq
  have bp := Below.heap_alloc w (.cells #[.iface T z] 185) p.block hpl
  have bq := Below.heap_alloc w (.cells #[.iface T z] 185) q.block hql
  have hp1 := (World.cell?_of_block (a := p) bp).trans hp
  have hpf1 := (World.frozen?_of_block (a := p) bp).trans hpf
  have hq1 := (World.cell?_of_block (a := q) bq).trans hq
  have hqf1 := (World.frozen?_of_block (a := q) bq).trans hqf
  have hq2 : ((w.alloc (.cells #[.iface T z] 185)).setCell p .nilIface).cell? q = some y := (World.cell?_setCell_other _ _ _ _ hpq).trans hq1
  have hqf2 : ((w.alloc (.cells #[.iface T z] 185)).setCell p .nilIface).frozen? q = false := (World.frozen?_setCell _ _ _ _).trans hqf1
  have HR : Hid _ := prefused_any T z w
  go_wp2_with (go_at_call 49; refine Calls.mono HR.out ?_; rintro e w' ⟨rfl, hww⟩; rw [hww]; clear hww w')
  simp [bodyPostS, results, Tryz.results48]
set_option maxRecDepth 20000 in
theorem catchE_idle (p q : Addr) (w : World) :
    CallsD Tryz.prog 74 #[.pointer (some p), .pointer (some q)] .returning w fun e u' w' => e = .returned (.tuple #[]) ∧ u' = .returning ∧ w' = w := by
  refine callsD_of_wpS Tryz.func74 rfl fun c₀ cs hu => ?_
  apply wpS_seq
  apply wpS_region
  simp [wpOpsS, go_sem, recoverD, hu, Tryz.ntmps74, Exit.thenS]
  refine wpS_of_wp ?_
  show Code.wp _ _ _ ⟨#[.pointer (some p), .pointer (some q), .nilIface, .nilIface, undef, undef, undef, undef], []⟩ w
  go_wp2
  cases c₀
  simp_all [bodyPostS, results, Tryz.results74]
set_option maxRecDepth 20000 in
theorem catchE_panicking (p q : Addr) (x y : Value) (T : TypeId) (z : Value) (older : List PanicEntry) (w : World) (hp : w.cell? p = some x) (hpf : w.frozen? p = false) (hq : w.cell? q = some y) (hqf : w.frozen? q = false) (hpq : p ≠ q) :
    CallsD Tryz.prog 74 #[.pointer (some p), .pointer (some q)] (.panicking ({ v := .iface 185 (.agg #[.iface T z]), recovered := false } :: older)) w fun e u' w' =>
      e = .returned (.tuple #[]) ∧ u' = .panicking ({ v := .iface 185 (.agg #[.iface T z]), recovered := true } :: older) ∧ w' = ((w.alloc (.cells #[.iface T z] 185)).setCell p .nilIface).setCell q (.iface T z) := by
  refine callsD_of_wpS Tryz.func74 rfl fun c₀ cs hu => ?_
  apply wpS_seq
  apply wpS_region
  simp [wpOpsS, go_sem, recoverD, hu, Tryz.ntmps74, Exit.thenS]
  refine wpS_of_wp ?_
  show Code.wp _ _ _ ⟨#[.pointer (some p), .pointer (some q), .iface 185 (.agg #[.iface T z]), .iface 185 (.agg #[.iface T z]), undef, undef, undef, undef], []⟩ w
  have hpl := World.block_lt_of_cell? _ _ hp
  have hql := World.block_lt_of_cell? _ _ hq
  have bp := Below.heap_alloc w (.cells #[.iface T z] 185) p.block hpl
  have bq := Below.heap_alloc w (.cells #[.iface T z] 185) q.block hql
  have hp1 := (World.cell?_of_block (a := p) bp).trans hp
  have hpf1 := (World.frozen?_of_block (a := p) bp).trans hpf
  have hq1 := (World.cell?_of_block (a := q) bq).trans hq
  have hqf1 := (World.frozen?_of_block (a := q) bq).trans hqf
  have hq2 : ((w.alloc (.cells #[.iface T z] 185)).setCell p .nilIface).cell? q = some y := (World.cell?_setCell_other _ _ _ _ hpq).trans hq1
  have hqf2 : ((w.alloc (.cells #[.iface T z] 185)).setCell p .nilIface).frozen? q = false := (World.frozen?_setCell _ _ _ _).trans hqf1
  have HR : Hid _ := prefused_any T z w
  go_wp2_with (go_at_call 49; refine Calls.mono HR.out ?_; rintro e w' ⟨rfl, hww⟩; rw [hww]; clear hww w')
  simp [bodyPostS, results, Tryz.results74]
end Go.Proofs.YtleenphlgbklmabGreatDoor

namespace Go.Proofs.YtleenphlgbklmabGreatDoor
open Go.RowKit

theorem ptref_all (s : ByteArray) (kws : List ByteArray) (L : List Tk) (hE : PEnv s kws L) (hkw : kws = [{ data := #[105, 110, 116] }, { data := #[98, 111, 111, 108] }]) (n : Nat) : SPTyp s L n ∧ SPOne s L n := by
  have hki : { data := #[105, 110, 116] } ∈ kws := by rw [hkw]; simp
  have hkb : { data := #[98, 111, 111, 108] } ∈ kws := by rw [hkw]; simp
  induction n with
  | zero =>
    refine ⟨?_, ?_⟩
    · intro w rb mb k names vb t names' k' bad' h hv hok hne hM
      simp [arrowM] at hM
    · intro w rb mb k names vb t names' k' bad' h hv hok hne hM
      simp [oneM] at hM
  | succ n ih =>
    refine ⟨ptyp_step s kws L hE n ih.1 ih.2, ?_⟩
    intro w rb mb k names vb t names' k' bad' h hv hok hne hM
    simp only [oneM] at hM
    cases h0 : isM L { data := #[105, 110, 116] } k (-1)
    · rw [h0] at hM
      cases h1 : isM L { data := #[98, 111, 111, 108] } k (-1)
      · rw [h1] at hM
        cases h2 : isM L { data := #[110, 97, 109, 101] } k (-1)
        · cases h3 : isM L { data := #[91] } k (-1)
          · rw [h3] at hM
            cases h4 : isM L { data := #[40] } k (-1)
            · rw [h4] at hM
              simp only [Bool.false_eq_true, if_false, Option.some.injEq, Prod.mk.injEq] at hM
              obtain ⟨_, _, _, rfl⟩ := hM
              rw [(needB_false h2 (by omega)).1]
              exact pone_bad s kws L hE hki hkb w rb mb k names vb t names' k' h hv hok hne hkw h0 h1 h2 h3 h4
            · rw [h4] at hM
              simp only [Bool.false_eq_true, if_false, if_true] at hM
              obtain ⟨⟨x, n1, k1, b1⟩, q1, q2⟩ := Option.bind_eq_some_iff.1 hM
              exact pone_brk s kws L hE hki hkb w rb mb k names vb t names' k' bad' h hv hok hne hkw h0 h1 h2 h3 h4 (fun w1 hp1 hv1 => pbrk_any s kws L hE n ih.1 w1 rb mb k names vb x n1 k1 b1 t names' k' bad' hp1 hv1 hok hne h4 q1 q2)
          · rw [h3] at hM
            simp only [Bool.false_eq_true, if_false, if_true] at hM
            obtain ⟨⟨x, n1, k1, b1⟩, q1, q2⟩ := Option.bind_eq_some_iff.1 hM
            simp only [Option.some.injEq, Prod.mk.injEq] at q2
            obtain ⟨rfl, rfl, rfl, rfl⟩ := q2
            exact pone_list s kws L hE hki hkb w rb mb k names vb _ _ _ _ h hv hok hne hkw h0 h1 h2 h3 (fun w1 hp1 hv1 => plist_any s kws L hE n ih.1 w1 rb mb k names vb x n1 k1 b1 hp1 hv1 hok hne h3 q1)
        · have h3 : isM L { data := #[91] } k (-1) = false := by
            simp only [isM, Bool.and_eq_true] at h2
            simp only [isM]
            rw [(sameS_iff (tkAt L k).is { data := #[110, 97, 109, 101] }).1 h2.2]
            decide
          have h4 : isM L { data := #[40] } k (-1) = false := by
            simp only [isM, Bool.and_eq_true] at h2
            simp only [isM]
            rw [(sameS_iff (tkAt L k).is { data := #[110, 97, 109, 101] }).1 h2.2]
            decide
          rw [h3, h4] at hM
          simp only [Bool.false_eq_true, if_false, Option.some.injEq, Prod.mk.injEq] at hM
          obtain ⟨rfl, rfl, rfl, rfl⟩ := hM
          rw [(needB_true h2).1, (needB_true h2).2]
          exact pone_name s kws L hE hki hkb w rb mb k names vb h hv hok hne h0 h1 h2
      · rw [h1] at hM
        simp only [Bool.false_eq_true, if_false, if_true, Option.some.injEq, Prod.mk.injEq] at hM
        obtain ⟨rfl, rfl, rfl, rfl⟩ := hM
        exact pone_bool s kws L hE hki hkb w rb mb k names vb h hv hok hne h0 h1
    · rw [h0] at hM
      simp only [if_true, Option.some.injEq, Prod.mk.injEq] at hM
      obtain ⟨rfl, rfl, rfl, rfl⟩ := hM
      exact pone_int s kws L hE hki hkb w rb mb k names vb h hv hok hne h0
end Go.Proofs.YtleenphlgbklmabGreatDoor

namespace Go.Proofs.YtleenphlgbklmabGreatDoor

/-- the fault that stands in a state of the reader: one that was told, or the token that is none. -/
def bz (l : List Tk) (k : Nat) (bad : Int) : Int := if 0 ≤ bad then bad else if (tkAt l k).is = { data := #[110, 111, 110, 101] } then ((tkAt l k).loc : Int) else -1
section
variable {l : List Tk} {k : Nat} {bad : Int}
theorem bz_ge (h : 0 ≤ bad) : bz l k bad = bad := by unfold bz; rw [if_pos h]
theorem bz_none (h : bad < 0) (hn : (tkAt l k).is = { data := #[110, 111, 110, 101] }) : bz l k bad = (tkAt l k).loc := by unfold bz; rw [if_neg (by omega), if_pos hn]
theorem bz_neg (h : bz l k bad < 0) : bad < 0 ∧ (tkAt l k).is ≠ { data := #[110, 111, 110, 101] } := by
  unfold bz at h
  split at h
  · omega
  · split at h
    · omega
    · exact ⟨by omega, by assumption⟩
theorem bz_ok (h : bad < 0) (hn : (tkAt l k).is ≠ { data := #[110, 111, 110, 101] }) : bz l k bad = -1 := by unfold bz; rw [if_neg (by omega), if_neg hn]
theorem bz_self (h : 0 ≤ bz l k bad) : bz l k (bz l k bad) = bz l k bad := bz_ge h
theorem isM_bz {q : ByteArray} (h : 0 ≤ bz l k bad) (hq : q.data.toList ≠ ({ data := #[110, 111, 110, 101] } : ByteArray).data.toList) : isM l q k bad = false := by
  by_cases h1 : 0 ≤ bad
  · exact isM_geT h1
  · by_cases h2 : (tkAt l k).is = { data := #[110, 111, 110, 101] }
    · exact isM_none h2 hq
    · rw [bz_ok (by omega) h2] at h; omega
theorem need_bz {q : ByteArray} (h : 0 ≤ bz l k bad) (hq : q.data.toList ≠ ({ data := #[110, 111, 110, 101] } : ByteArray).data.toList) : takeK l q k bad = k ∧ needB l q k bad = bz l k bad := by
  have e := isM_bz h hq
  unfold takeK needB
  rw [e]
  refine ⟨rfl, ?_⟩
  by_cases h1 : 0 ≤ bad
  · rw [bz_ge h1, if_neg (by simp; omega)]
  · by_cases h2 : (tkAt l k).is = { data := #[110, 111, 110, 101] }
    · rw [bz_none (by omega) h2, if_pos (by simp; omega)]
    · rw [bz_ok (by omega) h2] at h; omega
theorem need_bz' {q : ByteArray} (h : 0 ≤ bz l k bad) (hq : q.data.toList ≠ ({ data := #[110, 111, 110, 101] } : ByteArray).data.toList) : bz l (takeK l q k bad) (needB l q k bad) = bz l k bad := by
  rw [(need_bz h hq).1, (need_bz h hq).2]; exact bz_self h
theorem dup_ge {names : List ByteArray} {s : ByteArray} {loc : Nat} (h : 0 ≤ bad) : dupB names s loc bad = bad := by
  unfold dupB
  rw [if_neg (by simp; omega)]
end

/-- a fault once told stays. -/
structure Stk (l : List Tk) (n : Nat) : Prop where
  ex : ∀ k bad x k' bad', expM l n k bad = some (x, k', bad') → 0 ≤ bz l k bad → bz l k' bad' = bz l k bad
  bo : ∀ names kids k bad ns' ks' k' bad', boundM l n names kids k bad = some (ns', ks', k', bad') → 0 ≤ bz l k bad → bz l k' bad' = bz l k bad
  an : ∀ names kids k bad ns' ks' k' bad', andM l n names kids k bad = some (ns', ks', k', bad') → 0 ≤ bz l k bad → bz l k' bad' = bz l k bad
  at' : ∀ k bad x k' bad', atomM l n k bad = some (x, k', bad') → 0 ≤ bz l k bad → bz l k' bad' = bz l k bad
  ap : ∀ x k bad x' k' bad', appM l n x k bad = some (x', k', bad') → 0 ≤ bz l k bad → bz l k' bad' = bz l k bad
theorem stk (l : List Tk) : ∀ n, Stk l n := by
  intro n
  induction n with
  | zero => exact ⟨fun _ _ _ _ _ h => by simp [expM] at h, fun _ _ _ _ _ _ _ _ h => by simp [boundM] at h, fun _ _ _ _ _ _ _ _ h => by simp [andM] at h, fun _ _ _ _ _ h => by simp [atomM] at h, fun _ _ _ _ _ _ h => by simp [appM] at h⟩
  | succ n ih =>
    refine ⟨?_, ?_, ?_, ?_, ?_⟩
    · intro k bad x k' bad' h hz
      simp only [expM, isM_bz hz (show ({ data := #[102, 117, 110] } : ByteArray).data.toList ≠ ({ data := #[110, 111, 110, 101] } : ByteArray).data.toList by decide), isM_bz hz (show ({ data := #[105, 102] } : ByteArray).data.toList ≠ ({ data := #[110, 111, 110, 101] } : ByteArray).data.toList by decide), isM_bz hz (show ({ data := #[108, 101, 116] } : ByteArray).data.toList ≠ ({ data := #[110, 111, 110, 101] } : ByteArray).data.toList by decide), Bool.false_eq_true, if_false] at h
      split at h
      · simp only [Option.some.injEq, Prod.mk.injEq] at h
        obtain ⟨_, rfl, rfl⟩ := h
        rfl
      · obtain ⟨⟨x1, k1, b1⟩, h1, h2⟩ := Option.bind_eq_some_iff.1 h
        have e := ih.at' _ _ _ _ _ h1 hz
        exact (ih.ap _ _ _ _ _ _ h2 (by simp only; omega)).trans e
    · intro names kids k bad ns' ks' k' bad' h hz
      simp only [boundM] at h
      obtain ⟨⟨x1, k1, b1⟩, h1, h2⟩ := Option.bind_eq_some_iff.1 h
      simp only [Option.some.injEq, Prod.mk.injEq] at h2
      obtain ⟨_, _, rfl, rfl⟩ := h2
      have e1 := need_bz hz (show ({ data := #[110, 97, 109, 101] } : ByteArray).data.toList ≠ ({ data := #[110, 111, 110, 101] } : ByteArray).data.toList by decide)
      rw [e1.1, e1.2, dup_ge hz] at h1
      have hz2 : 0 ≤ bz l k (bz l k bad) := by rw [bz_self hz]; exact hz
      have e2 := need_bz hz2 (show ({ data := #[61] } : ByteArray).data.toList ≠ ({ data := #[110, 111, 110, 101] } : ByteArray).data.toList by decide)
      rw [e2.1, e2.2, bz_self hz] at h1
      rw [ih.ex _ _ _ _ _ h1 hz2, bz_self hz]
    · intro names kids k bad ns' ks' k' bad' h hz
      simp only [andM, isM_bz hz (show ({ data := #[97, 110, 100] } : ByteArray).data.toList ≠ ({ data := #[110, 111, 110, 101] } : ByteArray).data.toList by decide), Bool.false_eq_true, if_false, Option.some.injEq, Prod.mk.injEq] at h
      obtain ⟨_, _, rfl, rfl⟩ := h
      rfl
    · intro k bad x k' bad' h hz
      simp only [atomM, isM_bz hz (show ({ data := #[110, 97, 109, 101] } : ByteArray).data.toList ≠ ({ data := #[110, 111, 110, 101] } : ByteArray).data.toList by decide), isM_bz hz (show ({ data := #[110, 117, 109] } : ByteArray).data.toList ≠ ({ data := #[110, 111, 110, 101] } : ByteArray).data.toList by decide), Bool.or_false, Bool.false_eq_true, if_false] at h
      obtain ⟨⟨x1, k1, b1⟩, h1, h2⟩ := Option.bind_eq_some_iff.1 h
      have e1 := need_bz hz (show ({ data := #[40] } : ByteArray).data.toList ≠ ({ data := #[110, 111, 110, 101] } : ByteArray).data.toList by decide)
      rw [e1.1, e1.2] at h1
      have hz2 : 0 ≤ bz l k (bz l k bad) := by rw [bz_self hz]; exact hz
      have e2 := ih.ex _ _ _ _ _ h1 hz2
      rw [bz_self hz] at e2
      have hz3 : 0 ≤ bz l k1 b1 := by omega
      simp only [isM_bz hz3 (show ({ data := #[44] } : ByteArray).data.toList ≠ ({ data := #[110, 111, 110, 101] } : ByteArray).data.toList by decide), Bool.false_eq_true, if_false, Option.some.injEq, Prod.mk.injEq] at h2
      obtain ⟨_, rfl, rfl⟩ := h2
      rw [need_bz' hz3 (by decide), e2]
    · intro x k bad x' k' bad' h hz
      simp only [appM, isM_bz hz (show ({ data := #[110, 97, 109, 101] } : ByteArray).data.toList ≠ ({ data := #[110, 111, 110, 101] } : ByteArray).data.toList by decide), isM_bz hz (show ({ data := #[110, 117, 109] } : ByteArray).data.toList ≠ ({ data := #[110, 111, 110, 101] } : ByteArray).data.toList by decide), isM_bz hz (show ({ data := #[40] } : ByteArray).data.toList ≠ ({ data := #[110, 111, 110, 101] } : ByteArray).data.toList by decide), Bool.or_false, Bool.false_eq_true, if_false, Option.some.injEq, Prod.mk.injEq] at h
      obtain ⟨_, rfl, rfl⟩ := h
      rfl
end Go.Proofs.YtleenphlgbklmabGreatDoor

namespace Go.Proofs.YtleenphlgbklmabGreatDoor
open Go.RowKit

/-- thrown at a place; but for the reader all is as it was. -/
def ThrX (w : World) (rb : Nat) (loc : Int) (e : Ending) (w' : World) : Prop := ∃ b : Nat, e = thrown (.iface 83 (.pointer (some ⟨b, 0, none⟩))) ∧ (∃ n : Nat, loc = n ∧ w'.heap[b]? = some (.cells #[.int .i64 n] 94 (0, 0))) ∧ w.heap.size ≤ b ∧ Kq (· = rb) w w'
/-- behind a step of the reader of expressions: an answer, and where it stands; or thrown, where the fault is. -/
def PRet (Q : World → Value → Prop) (w : World) (rb : Nat) (s : ByteArray) (L : List Tk) (k' : Nat) (bad' : Int) (e : Ending) (w' : World) : Prop :=
  (bz L k' bad' < 0 → bad' = -1 ∧ ∃ v, e = .returned v ∧ Q w' v ∧ PAt w' rb s L k' ∧ Kq (· = rb) w w') ∧ (0 ≤ bz L k' bad' → ThrX w rb (bz L k' bad') e w')
theorem ThrX.before {w0 w w' : World} {rb : Nat} {z : Int} {e : Ending} (h : ThrX w rb z e w') (hk : Kq (· = rb) w0 w) : ThrX w0 rb z e w' := by
  obtain ⟨b, h1, h2, h3, h4⟩ := h
  exact ⟨b, h1, h2, Nat.le_trans hk.size h3, hk.trans h4⟩
theorem ThrX.of {w w' : World} {rb loc : Nat} {e : Ending} (h : ThrS w loc e w') : ThrX w rb loc e w' := by
  obtain ⟨b, h1, h2, h3, h4⟩ := h
  exact ⟨b, h1, ⟨loc, rfl, h2⟩, h3, Kq.of_kept h4⟩
theorem PRet.thr {Q : World → Value → Prop} {w w' : World} {rb : Nat} {s : ByteArray} {L : List Tk} {k' : Nat} {bad' : Int} {e : Ending} {z : Int} (h : ThrX w rb z e w') (hz : bz L k' bad' = z) (h0 : 0 ≤ z) : PRet Q w rb s L k' bad' e w' :=
  ⟨fun q => by omega, fun _ => by rw [hz]; exact h⟩
theorem PRet.ret {Q : World → Value → Prop} {w w' : World} {rb : Nat} {s : ByteArray} {L : List Tk} {k' : Nat} {v : Value} (hq : Q w' v) (hP : PAt w' rb s L k') (hK : Kq (· = rb) w w') : PRet Q w rb s L k' (-1) (.returned v) w' :=
  ⟨fun _ => ⟨rfl, v, rfl, hq, hP, hK⟩, fun q => by rw [bz_ok (by omega) hP.nn] at q; omega⟩
theorem PAt.lt' {w : World} {rb : Nat} {s : ByteArray} {L : List Tk} {k : Nat} (h : PAt w rb s L k) : rb < w.heap.size := by
  obtain ⟨kd, e, _⟩ := h.ex
  exact lt_of_block e
theorem need_true {L : List Tk} {q : ByteArray} {k : Nat} (h : isM L q k (-1) = true) : takeK L q k (-1) = k + 1 ∧ needB L q k (-1) = -1 := by
  unfold takeK needB
  rw [h]
  exact ⟨rfl, rfl⟩
theorem need_false {L : List Tk} {q : ByteArray} {k : Nat} (h : isM L q k (-1) = false) : takeK L q k (-1) = k ∧ needB L q k (-1) = (tkAt L k).loc := by
  unfold takeK needB
  rw [h]
  exact ⟨rfl, rfl⟩

section
variable {s : ByteArray} {kws : List ByteArray} {L : List Tk} (hE : PEnv s kws L) {w : World} {rb k : Nat}
include hE
theorem px_adv (h : PAt w rb s L k) (h1 : k + 1 < L.length) : Calls Tryz.prog 78 #[.pointer (some ⟨rb, 0, none⟩)] w fun e w' => PRet (fun _ v => v = .tuple #[]) w rb s L (k + 1) (-1) e w' := by
  by_cases hn : (tkAt L (k + 1)).is = { data := #[110, 111, 110, 101] }
  · refine (at_advN hE h h1 hn).mono ?_
    intro e w' ht
    exact PRet.thr (ThrX.of ht) (bz_none (by omega) hn) (by omega)
  · refine (at_adv hE h h1 hn).mono ?_
    rintro e w' ⟨rfl, hK, hP⟩
    exact PRet.ret rfl hP (Kq.of_kp hK (fun _ e => e))
theorem px_expect (h : PAt w rb s L k) (q : ByteArray) (hq : q ∈ kws ∨ isSgn q) (h1 : q.data.toList ≠ ({ data := #[101, 110, 100] } : ByteArray).data.toList) (h2 : q.data.toList ≠ ({ data := #[110, 111, 110, 101] } : ByteArray).data.toList) : Calls Tryz.prog 148 #[.pointer (some ⟨rb, 0, none⟩), .string q] w fun e w' => PRet (fun _ v => v = .tuple #[]) w rb s L (takeK L q k (-1)) (needB L q k (-1)) e w' := by
  cases hM : isM L q k (-1)
  · rw [(need_false hM).1, (need_false hM).2]
    refine (at_expB hE h q hq hM).mono ?_
    intro e w' ht
    exact PRet.thr (ThrX.of ht) (bz_ge (by omega)) (by omega)
  · rw [(need_true hM).1, (need_true hM).2]
    have hk := isM_lt hE.good h.lt hM h1 h2
    by_cases hn : (tkAt L (k + 1)).is = { data := #[110, 111, 110, 101] }
    · refine (at_expN hE h q hq hk hM hn).mono ?_
      intro e w' ht
      exact PRet.thr (ThrX.of ht) (bz_none (by omega) hn) (by omega)
    · refine (at_exp hE h q hq hk hM hn).mono ?_
      rintro e w' ⟨rfl, hK, hP⟩
      exact PRet.ret rfl hP (Kq.of_kp hK (fun _ e => e))
end
end Go.Proofs.YtleenphlgbklmabGreatDoor
