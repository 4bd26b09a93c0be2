import Derived.Test.YtleenphlgbklmabGreatDoorZPParse
import Derived.Test.YtleenphlgbklmabGreatDoorZPTv
import Derived.Test.YtleenphlgbklmabGreatDoorZFault
import Derived.Test.YtleenphlgbklmabGreatDoorZPVar
import Derived.Test.YtleenphlgbklmabGreatDoorZPRdB
import Derived.Test.YtleenphlgbklmabGreatDoorZPHa
set_option linter.unusedVariables false
set_option linter.unusedSimpArgs false
namespace Go.Proofs.YtleenphlgbklmabGreatDoor
open Go.RowKit

/-- behind parse: what its ways out are. -/
def PPost (A : Nat → Addr) (w : World) (F : Int) (x : X) (e : Ending) (w' : World) : Prop := Kept w w' ∧
  ((∃ b l : Nat, F = l ∧ e = .returned (.tuple #[.nilIface, .iface 83 (.pointer (some ⟨b, 0, none⟩))]) ∧ w'.heap[b]? = some (.cells #[.int .i64 l] 94 (0, 0))) ∨
  (F < 0 ∧ 40 < dp x ∧ e = .returned (.tuple #[.nilIface, .iface 342 (.pointer (some (A 1)))])) ∨
  (F < 0 ∧ dp x ≤ 40 ∧ ∃ v, e = .returned (.tuple #[v, .nilIface]) ∧ PX w' (fun b => w.heap.size ≤ b) x v))
theorem pparse_any {A : Nat → Addr} {s : ByteArray} {L : List Tk} (hE : PEnv s wordsL L) (w : World) (hG : Glb A w) (n : Nat) (x : X) (K : Nat) (B : Int) (hM : expM L n 0 (-1) = some (x, K, B)) :
    Calls Tryz.prog 46 #[.string s] w (PPost A w (needB L { data := #[101, 110, 100] } K B) x) := by
  by_cases h0 : (tkAt L 0).is = { data := #[110, 111, 110, 101] }
  · obtain ⟨hlp, hl0⟩ := lex0 hE
    have hT := tk_none hE.kw hE.eq 0 hlp h0
    rw [hl0] at hT
    have z0 : bz L 0 (-1) = (tkAt L 0).loc := bz_none (by omega) h0
    have z1 := (stk L n).ex _ _ _ _ _ hM (by rw [z0]; omega)
    have hn : needB L { data := #[101, 110, 100] } K B = (run blI s 0 : Nat) := by
      rw [(need_bz (by rw [z1, z0]; omega) (by decide)).2, z1, z0, hl0]
    have HN : Hid _ := (pnew_none s ((w.alloc (.cells #[.nilIface] 107)).alloc (.cells #[.nilIface] 56)) hE.sz hT).mono (R' := fun e w' => ∃ T z, e = thrown (.iface T z) ∧ (fun T z w2 => ∃ b : Nat, T = 83 ∧ z = .pointer (some ⟨b, 0, none⟩) ∧ w2.heap[b]? = some (.cells #[.int .i64 (run blI s 0 : Nat)] 94 (0, 0)) ∧ w.heap.size + 2 ≤ b) T z w' ∧ Kept ((w.alloc (.cells #[.nilIface] 107)).alloc (.cells #[.nilIface] 56)) w') (fun e w' ⟨b, h1, h2, h3, h4⟩ => ⟨_, _, h1, ⟨b, rfl, rfl, h2, by simpa using h3⟩, h4⟩)
    refine (pp_throw _ s w HN).mono ?_
    rintro e w' ⟨T, z, w2, rfl, ⟨b, rfl, rfl, hb, hbb⟩, hK, hX⟩
    exact ⟨hK, .inl ⟨b, _, hn, rfl, hX b _ hbb hb⟩⟩
  · exact pp_main hE w hG n x K B hM h0 _ (fun b l w' hK hn hb => ⟨hK, .inl ⟨b, l, hn, rfl, hb⟩⟩) (fun w' hK h1 h2 => ⟨hK, .inr (.inl ⟨h1, h2, rfl⟩)⟩) (fun v w' hK h1 h2 hx => ⟨hK, .inr (.inr ⟨h1, h2, v, rfl, hx⟩)⟩)
end Go.Proofs.YtleenphlgbklmabGreatDoor

namespace Go.Proofs.YtleenphlgbklmabGreatDoor
open Go.RowKit

set_option maxRecDepth 20000 in
theorem catchY_idle (p q : Addr) (w : World) :
    CallsD Tryz.prog 70 #[.pointer (some p), .pointer (some q)] .returning w fun e u' w' => e = .returned (.tuple #[]) ∧ u' = .returning ∧ w' = w := by
  refine callsD_of_wpS Tryz.func70 rfl fun c₀ cs hu => ?_
  apply wpS_seq
  apply wpS_region
  simp [wpOpsS, go_sem, recoverD, hu, Tryz.ntmps70, Exit.thenS]
  refine wpS_of_wp ?_
  show Code.wp _ _ _ ⟨#[.pointer (some p), .pointer (some q), .nilIface, .nilIface, undef, undef, undef, undef], []⟩ w
  go_wp2
  cases c₀
  simp_all [bodyPostS, results, Tryz.results70]
set_option maxRecDepth 20000 in
theorem catchY_panicking (p q : Addr) (x y : Value) (T : TypeId) (z : Value) (older : List PanicEntry) (w : World) (hp : w.cell? p = some x) (hpf : w.frozen? p = false) (hq : w.cell? q = some y) (hqf : w.frozen? q = false) (hpq : p ≠ q) :
    CallsD Tryz.prog 70 #[.pointer (some p), .pointer (some q)] (.panicking ({ v := .iface 185 (.agg #[.iface T z]), recovered := false } :: older)) w fun e u' w' =>
      e = .returned (.tuple #[]) ∧ u' = .panicking ({ v := .iface 185 (.agg #[.iface T z]), recovered := true } :: older) ∧ w' = ((w.alloc (.cells #[.iface T z] 185)).setCell p .nilIface).setCell q (.iface T z) := by
  refine callsD_of_wpS Tryz.func70 rfl fun c₀ cs hu => ?_
  apply wpS_seq
  apply wpS_region
  simp [wpOpsS, go_sem, recoverD, hu, Tryz.ntmps70, Exit.thenS]
  refine wpS_of_wp ?_
  show Code.wp _ _ _ ⟨#[.pointer (some p), .pointer (some q), .iface 185 (.agg #[.iface T z]), .iface 185 (.agg #[.iface T z]), undef, undef, undef, undef], []⟩ w
  have hpl := World.block_lt_of_cell? _ _ hp
  have hql := World.block_lt_of_cell? _ _ hq
  have bp := Below.heap_alloc w (.cells #[.iface T z] 185) p.block hpl
  have bq := Below.heap_alloc w (.cells #[.iface T z] 185) q.block hql
  have hp1 := (World.cell?_of_block (a := p) bp).trans hp
  have hpf1 := (World.frozen?_of_block (a := p) bp).trans hpf
  have hq1 := (World.cell?_of_block (a := q) bq).trans hq
  have hqf1 := (World.frozen?_of_block (a := q) bq).trans hqf
  have hq2 : ((w.alloc (.cells #[.iface T z] 185)).setCell p .nilIface).cell? q = some y := (World.cell?_setCell_other _ _ _ _ hpq).trans hq1
  have hqf2 : ((w.alloc (.cells #[.iface T z] 185)).setCell p .nilIface).frozen? q = false := (World.frozen?_setCell _ _ _ _).trans hqf1
  have HR : Hid _ := prefused_any T z w
  go_wp2_with (go_at_call 49; refine Calls.mono HR.out ?_; rintro e w' ⟨rfl, hww⟩; rw [hww]; clear hww w')
  simp [bodyPostS, results, Tryz.results70]
/-- what a text is as an expression. -/
def exO (s : ByteArray) : Option X :=
  if 300 < s.size then none
  else match expM (toksF s wordsL (s.size + 1) 0) 2000 0 (-1) with
    | none => none
    | some (x, K, B) => if 0 ≤ needB (toksF s wordsL (s.size + 1) 0) { data := #[101, 110, 100] } K B then none else if 40 < dp x then none else some x
theorem ex_good {A : Nat → Addr} {s : ByteArray} {x : X} (hr : exO s = some x) (w : World) (hG : Glb A w) :
    Calls Tryz.prog 46 #[.string s] w fun e w' => Kept w w' ∧ ∃ T u, e = .returned (.tuple #[.iface T u, .nilIface]) ∧ PX w' (fun _ => True) x (.iface T u) := by
  unfold exO at hr
  by_cases hs : 300 < s.size
  · rw [if_pos hs] at hr
    cases hr
  · rw [if_neg hs] at hr
    have hE : PEnv s wordsL (toksF s wordsL (s.size + 1) 0) := ⟨by omega, wordsOk, rfl⟩
    cases hM : expM (toksF s wordsL (s.size + 1) 0) 2000 0 (-1) with
    | none => rw [hM] at hr; cases hr
    | some q =>
      obtain ⟨x', K, B⟩ := q
      rw [hM] at hr
      simp only at hr
      split at hr
      · cases hr
      · rename_i hF
        split at hr
        · cases hr
        · rename_i hd
          simp only [Option.some.injEq] at hr
          subst hr
          refine (pparse_any hE w hG _ x' K B hM).mono ?_
          rintro e w' ⟨hk, h⟩
          rcases h with ⟨b, l, e1, _⟩ | ⟨_, e2, _⟩ | ⟨_, _, v, e2, e3⟩
          · omega
          · omega
          · obtain ⟨T, u, rfl⟩ := e3.iface
            exact ⟨hk, T, u, e2, e3.mono (fun _ _ _ => trivial)⟩
/-- what stood in a cell is laid there again. -/
theorem Kept.again {w : World} {b : Nat} {v : Value} {e : TypeId} (hb : w.heap[b]? = some (.cells #[v] e (0, 0))) : Kept w (w.setCell ⟨b, 0, none⟩ v) := ⟨rfl, rfl, by simp, fun k hk => by
  by_cases z : k = b
  · subst z
    rw [hb]
    simp [World.setCell, hb, Array.getElem?_modify]
  · exact Below.heap_setCell _ _ _ k z⟩
/-- where the refusal was caught. -/
theorem catch_world {w5 w6 : World} {b1 b2 : Nat} {T : TypeId} {z : Value} (h1 : w5.heap[b1]? = some (.cells #[.nilIface] 77 (0, 0))) (h2 : w5.heap[b2]? = some (.cells #[.nilIface] 56 (0, 0))) (hne : b1 ≠ b2) (hw : w6 = ((w5.alloc (.cells #[.iface T z] 185)).setCell ⟨b1, 0, none⟩ .nilIface).setCell ⟨b2, 0, none⟩ (.iface T z)) :
    w6.cell? ⟨b1, 0, none⟩ = some .nilIface ∧ w6.cell? ⟨b2, 0, none⟩ = some (.iface T z) ∧ w6.os = w5.os ∧ w6.output = w5.output ∧ w5.heap.size ≤ w6.heap.size ∧ ∀ k o, k ≠ b2 → w5.heap[k]? = some o → w6.heap[k]? = some o := by
  have ka : Kept w5 (w5.alloc (.cells #[.iface T z] 185)) := Kept.alloc _ _
  have a1 := ka.blk h1
  have a2 := ka.blk h2
  generalize w5.alloc (.cells #[.iface T z] 185) = V at *
  have kb := Kept.again a1
  have b1' := kb.blk a1
  have b2' := kb.blk a2
  generalize V.setCell ⟨b1, 0, none⟩ .nilIface = U at *
  have hk : ∀ k o, k ≠ b2 → w5.heap[k]? = some o → w6.heap[k]? = some o := fun k o hk ho => by
    rw [hw, Below.heap_setCell _ _ _ k (fun z => hk z)]
    exact (ka.trans kb).blk ho
  refine ⟨?_, ?_, by rw [hw]; exact (ka.trans kb).os, by rw [hw]; exact (ka.trans kb).output, by rw [hw]; simpa using (ka.trans kb).size, hk⟩
  · have := hk b1 _ hne h1
    simp [World.cell?, this]
  · rw [hw]
    exact World.cell?_setCell_same _ _ _ (u := .nilIface) (by simp [World.cell?, b2'])
/-- how typeOfText ends. -/
def TtO (A : Nat → Addr) (w : World) (e : Ending) (w' : World) : Option (Nat × ByteArray) → Oc (TR × St) → Prop
  | some q, _ => ∃ b, e = .returned (.tuple #[.nilIface, .iface 84 (.pointer (some ⟨b, 0, none⟩))]) ∧ w'.heap[b]? = some (.cells #[.int .i64 q.1, .string q.2] 97 (0, 0))
  | none, .er j => e = .returned (.tuple #[.nilIface, .iface 342 (.pointer (some (A j)))])
  | none, .ok q => ∃ T u ad, e = .returned (.tuple #[.iface T u, .nilIface]) ∧ RV ad q.1 (.iface T u) ∧ SX w' ad q.2 ∧ ∀ a, a ∈ ad → w.heap.size ≤ a
end Go.Proofs.YtleenphlgbklmabGreatDoor

namespace Go.Proofs.YtleenphlgbklmabGreatDoor
open Go.RowKit

theorem cell_of {V : World} {b i : Nat} {cs : Array Value} {t : TypeId} {v : Value} (h : V.heap[b]? = some (.cells cs t (0, 0))) (hv : cs[i]? = some v) : V.cell? ⟨b, i, none⟩ = some v := by simp [World.cell?, h, hv]
end Go.Proofs.YtleenphlgbklmabGreatDoor
