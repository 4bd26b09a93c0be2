import Derived.Test.YtleenphlgbklmaaGreatDoorVPWx
import Derived.Test.YtleenphlgbklmaaGreatDoorVPParse
import Derived.Test.YtleenphlgbklmaaGreatDoorVPStream
import Derived.Test.YtleenphlgbklmaaGreatDoorVPGt
set_option linter.unusedVariables false
set_option linter.unusedSimpArgs false
namespace Go.Proofs.YtleenphlgbklmaaGreatDoor
open Go.RowKit

theorem PX.wf {w : World} {P : Nat → Prop} {x : X} {v : Value} (h : PX w P x v) : WF x := by
  induction h with
  | name n loc b hW hP h => exact .leaf _ _ _ (.inl rfl)
  | num n loc b hW hP h => exact .leaf _ _ _ (.inr rfl)
  | fn n x loc b p hW hP h _ i0 => exact .fn _ _ _ i0
  | ite x y z loc b p q r hP h _ _ _ i0 i1 i2 => exact .ite _ _ _ _ i0 i1 i2
  | lt n x y loc b p q hW hP h _ _ i0 i1 =>
    refine .lt _ _ _ _ (.inl rfl) rfl (by simp) ?_
    intro a ha
    simp only [List.mem_cons, List.not_mem_nil, or_false] at ha
    rcases ha with rfl | rfl
    · exact i0
    · exact i1
  | app x y loc b p q hP h _ _ i0 i1 => exact .app _ _ _ i0 i1
  | pair x y loc b p q hP h _ _ i0 i1 => exact .pair _ _ _ i0 i1
  | rc names kids y loc b nv vv q ps hN hW hP h hn hv hnP hvP hl hl2 _ _ i j =>
    refine .lt _ _ _ _ (.inr rfl) (by simp [hl2]) hN ?_
    intro a ha
    rcases List.mem_append.1 ha with ha | ha
    · obtain ⟨k, hk, rfl⟩ := List.getElem_of_mem ha
      exact i k _ ps[k] (by simp [hk]) (by simp [hl, hk])
    · simp only [List.mem_cons, List.not_mem_nil, or_false] at ha
      rw [ha]
      exact j
theorem pre_size (l : ByteArray) : (pre l).size ≤ 1 := by
  unfold pre
  split <;> decide
theorem PX.sz {w : World} {P : Nat → Prop} {x : X} {v : Value} (h : PX w P x v) (l : ByteArray) : (pre l ++ txt x).size ≤ tw x + 1 := by
  have := txt_size x h.wf
  have := pre_size l
  rw [ByteArray.size_append]
  omega
end Go.Proofs.YtleenphlgbklmaaGreatDoor

namespace Go.Proofs.YtleenphlgbklmaaGreatDoor
open Go.RowKit

theorem XKeep.drew (w : World) : XKeep w w.drew := fun _ _ _ _ _ h => h
theorem PX.drew {w : World} {P : Nat → Prop} {x : X} {v : Value} (h : PX w P x v) : PX w.drew P x v := h.keepT (XKeep.drew w)
end Go.Proofs.YtleenphlgbklmaaGreatDoor

namespace Go.Proofs.YtleenphlgbklmaaGreatDoor
open Go.RowKit

/-- behind parse: what its ways out are. -/
def PPost (A : Nat → Addr) (w : World) (F : Int) (x : X) (e : Ending) (w' : World) : Prop := Kept w w' ∧
  ((∃ b l : Nat, F = l ∧ e = .returned (.tuple #[.nilIface, .iface 134 (.pointer (some ⟨b, 0, none⟩))]) ∧ w'.heap[b]? = some (.cells #[.int .i64 l] 145 (0, 0))) ∨
  (F < 0 ∧ 40 < dp x ∧ e = .returned (.tuple #[.nilIface, .iface 407 (.pointer (some (A 1)))])) ∨
  (F < 0 ∧ dp x ≤ 40 ∧ ∃ v, e = .returned (.tuple #[v, .nilIface]) ∧ PX w' (fun b => w.heap.size ≤ b) x v))
theorem pparse_any {A : Nat → Addr} {s : ByteArray} {L : List Tk} (hE : PEnv s wordsL L) (w : World) (hG : Glb A w) (n : Nat) (x : X) (K : Nat) (B : Int) (hM : expM L n 0 (-1) = some (x, K, B)) :
    Calls Tryz.prog 69 #[.string s] w (PPost A w (needB L { data := #[101, 110, 100] } K B) x) := by
  by_cases h0 : (tkAt L 0).is = { data := #[110, 111, 110, 101] }
  · obtain ⟨hlp, hl0⟩ := lex0 hE
    have hT := tk_none hE.kw hE.eq 0 hlp h0
    rw [hl0] at hT
    have z0 : bz L 0 (-1) = (tkAt L 0).loc := bz_none (by omega) h0
    have z1 := (stk L n).ex _ _ _ _ _ hM (by rw [z0]; omega)
    have hn : needB L { data := #[101, 110, 100] } K B = (run blI s 0 : Nat) := by
      rw [(need_bz (by rw [z1, z0]; omega) (by decide)).2, z1, z0, hl0]
    have HN : Hid _ := (pnew_none s ((w.alloc (.cells #[.nilIface] 130)).alloc (.cells #[.nilIface] 72)) hE.sz hT).mono (R' := fun e w' => ∃ T z, e = thrown (.iface T z) ∧ (fun T z w2 => ∃ b : Nat, T = 134 ∧ z = .pointer (some ⟨b, 0, none⟩) ∧ w2.heap[b]? = some (.cells #[.int .i64 (run blI s 0 : Nat)] 145 (0, 0)) ∧ w.heap.size + 2 ≤ b) T z w' ∧ Kept ((w.alloc (.cells #[.nilIface] 130)).alloc (.cells #[.nilIface] 72)) w') (fun e w' ⟨b, h1, h2, h3, h4⟩ => ⟨_, _, h1, ⟨b, rfl, rfl, h2, by simpa using h3⟩, h4⟩)
    refine (pp_throw _ s w HN).mono ?_
    rintro e w' ⟨T, z, w2, rfl, ⟨b, rfl, rfl, hb, hbb⟩, hK, hX⟩
    exact ⟨hK, .inl ⟨b, _, hn, rfl, hX b _ hbb hb⟩⟩
  · exact pp_main hE w hG n x K B hM h0 _ (fun b l w' hK hn hb => ⟨hK, .inl ⟨b, l, hn, rfl, hb⟩⟩) (fun w' hK h1 h2 => ⟨hK, .inr (.inl ⟨h1, h2, rfl⟩)⟩) (fun v w' hK h1 h2 hx => ⟨hK, .inr (.inr ⟨h1, h2, v, rfl, hx⟩)⟩)
end Go.Proofs.YtleenphlgbklmaaGreatDoor

namespace Go.Proofs.YtleenphlgbklmaaGreatDoor
open Go.RowKit

set_option maxRecDepth 20000 in
theorem catchY_idle (p q : Addr) (w : World) :
    CallsD Tryz.prog 124 #[.pointer (some p), .pointer (some q)] .returning w fun e u' w' => e = .returned (.tuple #[]) ∧ u' = .returning ∧ w' = w := by
  refine callsD_of_wpS Tryz.func124 rfl fun c₀ cs hu => ?_
  apply wpS_seq
  apply wpS_region
  simp [wpOpsS, go_sem, recoverD, hu, Tryz.ntmps124, Exit.thenS]
  refine wpS_of_wp ?_
  show Code.wp _ _ _ ⟨#[.pointer (some p), .pointer (some q), .nilIface, .nilIface, undef, undef, undef, undef], []⟩ w
  go_wp2
  cases c₀
  simp_all [bodyPostS, results, Tryz.results124]
set_option maxRecDepth 20000 in
theorem catchY_panicking (p q : Addr) (x y : Value) (T : TypeId) (z : Value) (older : List PanicEntry) (w : World) (hp : w.cell? p = some x) (hpf : w.frozen? p = false) (hq : w.cell? q = some y) (hqf : w.frozen? q = false) (hpq : p ≠ q) :
    CallsD Tryz.prog 124 #[.pointer (some p), .pointer (some q)] (.panicking ({ v := .iface 250 (.agg #[.iface T z]), recovered := false } :: older)) w fun e u' w' =>
      e = .returned (.tuple #[]) ∧ u' = .panicking ({ v := .iface 250 (.agg #[.iface T z]), recovered := true } :: older) ∧ w' = ((w.alloc (.cells #[.iface T z] 250)).setCell p .nilIface).setCell q (.iface T z) := by
  refine callsD_of_wpS Tryz.func124 rfl fun c₀ cs hu => ?_
  apply wpS_seq
  apply wpS_region
  simp [wpOpsS, go_sem, recoverD, hu, Tryz.ntmps124, Exit.thenS]
  refine wpS_of_wp ?_
  show Code.wp _ _ _ ⟨#[.pointer (some p), .pointer (some q), .iface 250 (.agg #[.iface T z]), .iface 250 (.agg #[.iface T z]), undef, undef, undef, undef], []⟩ w
  have hpl := World.block_lt_of_cell? _ _ hp
  have hql := World.block_lt_of_cell? _ _ hq
  have bp := Below.heap_alloc w (.cells #[.iface T z] 250) p.block hpl
  have bq := Below.heap_alloc w (.cells #[.iface T z] 250) q.block hql
  have hp1 := (World.cell?_of_block (a := p) bp).trans hp
  have hpf1 := (World.frozen?_of_block (a := p) bp).trans hpf
  have hq1 := (World.cell?_of_block (a := q) bq).trans hq
  have hqf1 := (World.frozen?_of_block (a := q) bq).trans hqf
  have hq2 : ((w.alloc (.cells #[.iface T z] 250)).setCell p .nilIface).cell? q = some y := (World.cell?_setCell_other _ _ _ _ hpq).trans hq1
  have hqf2 : ((w.alloc (.cells #[.iface T z] 250)).setCell p .nilIface).frozen? q = false := (World.frozen?_setCell _ _ _ _).trans hqf1
  have HR : Hid _ := prefused_any T z w
  go_wp2_with (go_at_call 95; refine Calls.mono HR.out ?_; rintro e w' ⟨rfl, hww⟩; rw [hww]; clear hww w')
  simp [bodyPostS, results, Tryz.results124]
/-- what a text is as an expression. -/
def exO (s : ByteArray) : Option X :=
  if 300 < s.size then none
  else match expM (toksF s wordsL (s.size + 1) 0) 2000 0 (-1) with
    | none => none
    | some (x, K, B) => if 0 ≤ needB (toksF s wordsL (s.size + 1) 0) { data := #[101, 110, 100] } K B then none else if 40 < dp x then none else some x
theorem ex_good {A : Nat → Addr} {s : ByteArray} {x : X} (hr : exO s = some x) (w : World) (hG : Glb A w) :
    Calls Tryz.prog 69 #[.string s] w fun e w' => Kept w w' ∧ ∃ T u, e = .returned (.tuple #[.iface T u, .nilIface]) ∧ PX w' (fun _ => True) x (.iface T u) := by
  unfold exO at hr
  by_cases hs : 300 < s.size
  · rw [if_pos hs] at hr
    cases hr
  · rw [if_neg hs] at hr
    have hE : PEnv s wordsL (toksF s wordsL (s.size + 1) 0) := ⟨by omega, wordsOk, rfl⟩
    cases hM : expM (toksF s wordsL (s.size + 1) 0) 2000 0 (-1) with
    | none => rw [hM] at hr; cases hr
    | some q =>
      obtain ⟨x', K, B⟩ := q
      rw [hM] at hr
      simp only at hr
      split at hr
      · cases hr
      · rename_i hF
        split at hr
        · cases hr
        · rename_i hd
          simp only [Option.some.injEq] at hr
          subst hr
          refine (pparse_any hE w hG _ x' K B hM).mono ?_
          rintro e w' ⟨hk, h⟩
          rcases h with ⟨b, l, e1, _⟩ | ⟨_, e2, _⟩ | ⟨_, _, v, e2, e3⟩
          · omega
          · omega
          · obtain ⟨T, u, rfl⟩ := e3.iface
            exact ⟨hk, T, u, e2, e3.mono (fun _ _ _ => trivial)⟩
/-- what stood in a cell is laid there again. -/
theorem Kept.again {w : World} {b : Nat} {v : Value} {e : TypeId} (hb : w.heap[b]? = some (.cells #[v] e (0, 0))) : Kept w (w.setCell ⟨b, 0, none⟩ v) := ⟨rfl, rfl, by simp, fun k hk => by
  by_cases z : k = b
  · subst z
    rw [hb]
    simp [World.setCell, hb, Array.getElem?_modify]
  · exact Below.heap_setCell _ _ _ k z⟩
/-- where the refusal was caught. -/
theorem catch_world {w5 w6 : World} {b1 b2 : Nat} {T : TypeId} {z : Value} (h1 : w5.heap[b1]? = some (.cells #[.nilIface] 156 (0, 0))) (h2 : w5.heap[b2]? = some (.cells #[.nilIface] 72 (0, 0))) (hne : b1 ≠ b2) (hw : w6 = ((w5.alloc (.cells #[.iface T z] 250)).setCell ⟨b1, 0, none⟩ .nilIface).setCell ⟨b2, 0, none⟩ (.iface T z)) :
    w6.cell? ⟨b1, 0, none⟩ = some .nilIface ∧ w6.cell? ⟨b2, 0, none⟩ = some (.iface T z) ∧ w6.os = w5.os ∧ w6.output = w5.output ∧ w5.heap.size ≤ w6.heap.size ∧ ∀ k o, k ≠ b2 → w5.heap[k]? = some o → w6.heap[k]? = some o := by
  have ka : Kept w5 (w5.alloc (.cells #[.iface T z] 250)) := Kept.alloc _ _
  have a1 := ka.blk h1
  have a2 := ka.blk h2
  generalize w5.alloc (.cells #[.iface T z] 250) = V at *
  have kb := Kept.again a1
  have b1' := kb.blk a1
  have b2' := kb.blk a2
  generalize V.setCell ⟨b1, 0, none⟩ .nilIface = U at *
  have hk : ∀ k o, k ≠ b2 → w5.heap[k]? = some o → w6.heap[k]? = some o := fun k o hk ho => by
    rw [hw, Below.heap_setCell _ _ _ k (fun z => hk z)]
    exact (ka.trans kb).blk ho
  refine ⟨?_, ?_, by rw [hw]; exact (ka.trans kb).os, by rw [hw]; exact (ka.trans kb).output, by rw [hw]; simpa using (ka.trans kb).size, hk⟩
  · have := hk b1 _ hne h1
    simp [World.cell?, this]
  · rw [hw]
    exact World.cell?_setCell_same _ _ _ (u := .nilIface) (by simp [World.cell?, b2'])
/-- without a watcher nothing is to be kept. -/
def KN : World → Unit → Prop := fun _ _ => True
theorem KN.ok : KOk KN := fun _ _ _ _ _ _ => trivial
theorem Kw.keptBy {w w5 w6 : World} {ad : List Nat} (h : Kept w w5) (k : Kw w.heap.size ad w5 w6) (had : ∀ a, a ∈ ad → w.heap.size ≤ a) : Kept w w6 := ⟨k.os.trans h.os, k.output.trans h.output, Nat.le_trans h.size k.size, fun q hq => by
  have e : w5.heap[q]? = some (w5.heap[q]'(Nat.lt_of_lt_of_le hq h.size)) := by simp
  rw [← h.block q hq, e]
  exact k.blk q _ e (fun _ => hq) (fun _ z => by have := had q z; omega)⟩
/-- how typeOfText ends. -/
def TtO (A : Nat → Addr) (w : World) (e : Ending) (w' : World) : Option (Nat × ByteArray) → Oc (TR × St) → Prop
  | some q, _ => ∃ b, e = .returned (.tuple #[.nilIface, .iface 135 (.pointer (some ⟨b, 0, none⟩))]) ∧ w'.heap[b]? = some (.cells #[.int .i64 q.1, .string q.2] 148 (0, 0))
  | none, .er j => e = .returned (.tuple #[.nilIface, .iface 407 (.pointer (some (A j)))])
  | none, .ok q => ∃ T u ad, e = .returned (.tuple #[.iface T u, .nilIface]) ∧ RV ad q.1 (.iface T u) ∧ SX w' ad q.2 ∧ ∀ a, a ∈ ad → w.heap.size ≤ a
set_option maxRecDepth 20000 in
set_option maxHeartbeats 4000000 in
theorem tot_ty {A : Nat → Addr} {fl : Nat} {s : ByteArray} {em : Nat} {kv kvs : List (ByteArray × ByteArray)} {x : X} {rk : Bool} {gv : Gv} {σ : St} {ck : Option (Nat × ByteArray)} {res : Oc (TR × St)} (w : World) (hG : Glb A w) (hS : SM w em kv) (hl : kv.length ≤ 1000) (hsz : ∀ y, y ∈ kv → y.1.size ≤ 1000) (hp : kvs.Perm kv) (hso : (kvs.map fun y => y.1.data.toList).Pairwise (fun x y => decide (x ≤ y) = true)) (h1 : 1 ≤ fl) (h2 : fl ≤ 12) (hx : exO s = some x) (hgv : gvF kvs [] [] = some (gv, σ)) (hck : chkF rk gv 500 x [] = some ck) (hty : ck = none → typF tlN rk gv fl 500 x [] σ () = some (res, ()))
    (hrc : rk = true → ∀ f, SCk gv f → SCg gv f) (hrt : ∀ B, rk = true → ∀ f, STf A B KN gv fl .nilFunc f → SGr tlN A B KN gv fl .nilFunc f) :
    Calls Tryz.prog 93 #[.agg #[.int .i64 fl, .nilFunc], .string s, .map (some em)] w fun e w' => Kept w w' ∧ TtO A w e w' ck res := by
  have hk1 : Kept w (((w.alloc (.cells #[.int .i64 fl, .nilFunc] 172)).alloc (.cells #[.nilIface] 156)).alloc (.cells #[.nilIface] 72)) := ((Kept.alloc _ _).trans (Kept.alloc _ _)).trans (Kept.alloc _ _)
  have e1 : (w.alloc (.cells #[.int .i64 fl, .nilFunc] 172)).heap.size = w.heap.size + 1 := by simp
  have e2 : ((w.alloc (.cells #[.int .i64 fl, .nilFunc] 172)).alloc (.cells #[.nilIface] 156)).heap.size = w.heap.size + 1 + 1 := by simp
  have hb0 : (((w.alloc (.cells #[.int .i64 fl, .nilFunc] 172)).alloc (.cells #[.nilIface] 156)).alloc (.cells #[.nilIface] 72)).heap[w.heap.size]? = some (.cells #[.int .i64 fl, .nilFunc] 172 (0, 0)) := ((Kept.alloc _ _).trans (Kept.alloc _ _)).blk (heap_alloc_new _ _)
  have hb1 : (((w.alloc (.cells #[.int .i64 fl, .nilFunc] 172)).alloc (.cells #[.nilIface] 156)).alloc (.cells #[.nilIface] 72)).heap[w.heap.size + 1]? = some (.cells #[.nilIface] 156 (0, 0)) := by
    rw [← e1]
    exact (Kept.alloc _ _).blk (heap_alloc_new _ _)
  have hb2 : (((w.alloc (.cells #[.int .i64 fl, .nilFunc] 172)).alloc (.cells #[.nilIface] 156)).alloc (.cells #[.nilIface] 72)).heap[w.heap.size + 1 + 1]? = some (.cells #[.nilIface] 72 (0, 0)) := by
    rw [← e2]
    exact heap_alloc_new _ _
  clear e1 e2
  go_enter_defers Tryz.func93, Tryz.ntmps93
  go_wp2_with fail
  generalize ((w.alloc (.cells #[.int .i64 fl, .nilFunc] 172)).alloc (.cells #[.nilIface] 156)).alloc (.cells #[.nilIface] 72) = W at *
  have HP : Hid _ := ex_good hx W (hG.kept hk1)
  refine Calls.mono HP.out ?_
  rintro e w1 ⟨hkp, T, u, rfl, hpx⟩
  have c0 := hkp.blk hb0
  have c1 := hkp.blk hb1
  have c2 := hkp.blk hb2
  have d0 : w1.cell? ⟨w.heap.size, 0, none⟩ = some (.int .i64 fl) := by simp [World.cell?, c0]
  have d2 : w1.cell? ⟨w.heap.size + 1 + 1, 0, none⟩ = some .nilIface := by simp [World.cell?, c2]
  have f2 : w1.frozen? ⟨w.heap.size + 1 + 1, 0, none⟩ = false := by simp [World.frozen?, c2]
  have HW1 : Hid _ := hk1.trans hkp
  have HPX : Hid _ := hpx
  clear HP hkp hpx hb0 hb1 hb2 hk1
  go_wp2_with fail
  have hk2 := Kept.again c2
  generalize w1.setCell ⟨w.heap.size + 1 + 1, 0, none⟩ .nilIface = w2 at *
  have hkw2 := HW1.out.trans hk2
  have c0 := hk2.blk c0
  have c1 := hk2.blk c1
  have c2 := hk2.blk c2
  have HGS : Hid _ := given_sx (hG.kept hkw2) ⟨hkw2.blk hS.mp, hS.nd⟩ hl hsz hp hso hgv
  have HPX2 : Hid _ := PX.keepT (XKeep.kept hk2) HPX.out
  have HGL : Hid _ := hG
  have HCK : Hid _ := hck
  have HTY : Hid _ := hty
  have HRC : Hid _ := hrc
  have HRT : Hid _ := hrt
  have HW2 : Hid _ := hkw2
  clear hkw2 hk2 HW1 HPX hG hS hl hsz hp hso hgv hck hty hrc hrt d0 d2 f2 hx
  refine Calls.mono HGS.out ?_
  rintro e w3 ⟨gm, ad, rfl, hs3, har, hgm, had, hk3⟩
  have c0 := hk3.blk c0
  have c1 := hk3.blk c1
  have c2 := hk3.blk c2
  have hka : Kept w3 (w3.alloc (.cells #[.pointer none, .map (some gm)] 244)) := Kept.alloc _ _
  have hnb := heap_alloc_new w3 (.cells #[.pointer none, .map (some gm)] 244)
  have c0 := hka.blk c0
  have c1 := hka.blk c1
  have c2 := hka.blk c2
  have d2 : (w3.alloc (.cells #[.pointer none, .map (some gm)] 244)).cell? ⟨w.heap.size + 1 + 1, 0, none⟩ = some .nilIface := by rw [World.cell?]; simp only [c2]; rfl
  have f2 : (w3.alloc (.cells #[.pointer none, .map (some gm)] 244)).frozen? ⟨w.heap.size + 1 + 1, 0, none⟩ = false := by rw [World.frozen?]; simp only [c2]; rfl
  have HNB : Hid _ := hnb
  have HS3 : Hid _ := hs3
  have HAR : Hid _ := har
  have HGM : Hid _ := hgm
  have HAD : Hid _ := had
  have HK3 : Hid _ := hk3
  have HKA : Hid _ := hka
  have HC0 : Hid _ := c0
  have HC1 : Hid _ := c1
  have HC2 : Hid _ := c2
  have hk4 := Kept.again HC2.out
  have cn := hk4.blk HNB.out
  have n0 : ((w3.alloc (.cells #[.pointer none, .map (some gm)] 244)).setCell ⟨w.heap.size + 1 + 1, 0, none⟩ .nilIface).cell? ⟨w3.heap.size, 0, none⟩ = some (.pointer none) := by rw [World.cell?]; simp only [cn]; rfl
  have n1 : ((w3.alloc (.cells #[.pointer none, .map (some gm)] 244)).setCell ⟨w.heap.size + 1 + 1, 0, none⟩ .nilIface).cell? ⟨w3.heap.size, 1, none⟩ = some (.map (some gm)) := by rw [World.cell?]; simp only [cn]; rfl
  have HK4 : Hid _ := hk4
  clear HGS hs3 har hgm had hk3 hka hnb c0 c1 c2 hk4 cn
  go_wp2_with fail
  have hk4 := HK4.out
  clear HK4
  generalize (w3.alloc (.cells #[.pointer none, .map (some gm)] 244)).setCell ⟨w.heap.size + 1 + 1, 0, none⟩ .nilIface = w4 at *
  have hk34 := HKA.out.trans hk4
  have c0 := hk4.blk HC0.out
  have c1 := hk4.blk HC1.out
  have c2 := hk4.blk HC2.out
  have cn := hk4.blk HNB.out
  have hkw4 := (HW2.out.trans HK3.out).trans hk34
  have hci : CI w4 ad [] gv none gm := ⟨rfl, GM.kt HGM.out (Kt.of_kept (ad := ad) (S := fun _ => False) hk34) id⟩
  have hpx4 := PX.keepT (XKeep.kept (HK3.out.trans hk34)) HPX2.out
  have HCH : Hid _ := chk_sx HRC.out 500 x [] ck HCK.out w4 ad _ none gm hpx4 hci
  have HKW4 : Hid _ := hkw4
  have HK34 : Hid _ := hk34
  have HPX4 : Hid _ := hpx4
  have HCI : Hid _ := hci
  have HC0' : Hid _ := c0
  have HC1' : Hid _ := c1
  have HC2' : Hid _ := c2
  have HCN : Hid _ := cn
  clear HPX2 HNB HC0 HC1 HC2 d2 f2 hkw4 hk34 hpx4 hci HCK HRC hk4 HKA c0 c1 c2 cn HGM
  refine Calls.mono HCH.out ?_
  intro e w5 hE
  rcases hE.split with ⟨q, b, rfl, rfl, hE⟩ | ⟨rfl, rfl, hk5⟩
  · obtain ⟨hk5, b', he, hb5⟩ := hE
    have hbb : b = b' := by simpa using he
    subst hbb
    have g1 := hk5.blk HC1'.out
    have g2 := hk5.blk HC2'.out
    have hKF := HKW4.out.trans hk5
    clear he hk5 HCH
    refine leaves_cons (f := 124) (args := #[.pointer (some ⟨w.heap.size + 1, 0, none⟩), .pointer (some ⟨w.heap.size + 1 + 1, 0, none⟩)]) (by simp) (by simp [go_sem]) ?_
    refine (catchY_panicking ⟨w.heap.size + 1, 0, none⟩ ⟨w.heap.size + 1 + 1, 0, none⟩ .nilIface .nilIface 135 (.pointer (some ⟨b, 0, none⟩)) [] w5 ?_ ?_ ?_ ?_ ?_).mono ?_
    · simp [World.cell?, g1]
    · simp [World.frozen?, g1]
    · simp [World.cell?, g2]
    · simp [World.frozen?, g2]
    · simp
    rintro e u' w6 ⟨rfl, rfl, hww⟩
    obtain ⟨cp, cq, ho, hou, hsz, hkk⟩ := catch_world g1 g2 (by omega) hww
    have HF : Hid (Kept w w6 ∧ TtO A w (.returned (.tuple #[.nilIface, .iface 135 (.pointer (some ⟨b, 0, none⟩))])) w6 (some q) res) := by
      refine ⟨⟨ho.trans hKF.os, hou.trans hKF.output, Nat.le_trans hKF.size hsz, fun k hk => ?_⟩, b, rfl, hkk b _ (fun z => ?_) hb5⟩
      · have e : w5.heap[k]? = w.heap[k]? := hKF.block k hk
        have e2 : w.heap[k]? = some (w.heap[k]'hk) := by simp
        rw [e2]
        exact hkk k _ (by omega) (e.trans e2)
      · rw [z, g2] at hb5
        simp at hb5
    clear hww
    simp [Leaves, settle, results, Tryz.results93, go_sem, cp, cq]
    exact HF.out
  · have hty := HTY.out rfl
    have c0 := hk5.blk HC0'.out
    have c1 := hk5.blk HC1'.out
    have c2 := hk5.blk HC2'.out
    have cn := hk5.blk HCN.out
    have d0 : w5.cell? ⟨w.heap.size, 0, none⟩ = some (.int .i64 fl) := by simp [World.cell?, c0]
    have d1 : w5.cell? ⟨w.heap.size, 1, none⟩ = some .nilFunc := by simp [World.cell?, c0]
    have n0' : w5.cell? ⟨w3.heap.size, 0, none⟩ = some (.pointer none) := by simp [World.cell?, cn]
    have n1' : w5.cell? ⟨w3.heap.size, 1, none⟩ = some (.map (some gm)) := by simp [World.cell?, cn]
    have hkw5 := HKW4.out.trans hk5
    have hk35 := HK34.out.trans hk5
    have hga := (GA.start HGL.out).kept hkw5
    have had : ∀ a, a ∈ ad → w.heap.size ≤ a := fun a ha => Nat.le_trans HW2.out.size (HAD.out a ha)
    have hTI : TI A w.heap.size KN w5 ad σ [] gv none gm () := ⟨SX.kept HS3.out hk35, AR.ws HAR.out, ⟨hga.glb, had, hga.sz, hga.ab, hga.gb⟩, rfl, (HCI.out.kept hk5).gm, trivial⟩
    have HT : Hid _ := typ_sx (tl := tlN) KN.ok (HRT.out w.heap.size) 500 x [] σ () (res, ()) hty w5 ad _ none gm (PX.keepT (XKeep.kept hk5) HPX4.out) hTI
    have HC1 : Hid _ := c1
    have HC2 : Hid _ := c2
    have HKW5 : Hid _ := hkw5
    have HAD5 : Hid _ := had
    clear hty c0 c1 c2 cn hkw5 hk35 hga had hTI hk5 HCH HTY HRT HGL HS3 HAR HCI HPX4 hE
    go_wp2_with fail
    refine Calls.mono HT.out ?_
    intro e w6 hE
    cases res with
    | er j =>
      obtain ⟨he, _, hkw⟩ := hE
      rw [show e = _ from he]
      have hgk := Gk.ofKw hkw
      have g1 := hgk.oth (by decide) HC1.out
      have g2 := hgk.oth (by decide) HC2.out
      have hKF := Kw.keptBy HKW5.out hkw HAD5.out
      clear he HT
      refine leaves_cons (f := 124) (args := #[.pointer (some ⟨w.heap.size + 1, 0, none⟩), .pointer (some ⟨w.heap.size + 1 + 1, 0, none⟩)]) (by simp) (by simp [go_sem]) ?_
      refine (catchY_panicking ⟨w.heap.size + 1, 0, none⟩ ⟨w.heap.size + 1 + 1, 0, none⟩ .nilIface .nilIface 407 (.pointer (some (A j))) [] w6 ?_ ?_ ?_ ?_ ?_).mono ?_
      · simp [World.cell?, g1]
      · simp [World.frozen?, g1]
      · simp [World.cell?, g2]
      · simp [World.frozen?, g2]
      · simp
      rintro e u' w7 ⟨rfl, rfl, hww⟩
      obtain ⟨cp, cq, ho, hou, hsz, hkk⟩ := catch_world g1 g2 (by omega) hww
      have HF : Hid (Kept w w7 ∧ TtO A w (.returned (.tuple #[.nilIface, .iface 407 (.pointer (some (A j)))])) w7 none (.er j)) := by
        refine ⟨⟨ho.trans hKF.os, hou.trans hKF.output, Nat.le_trans hKF.size hsz, fun k hk => ?_⟩, rfl⟩
        have e : w6.heap[k]? = w.heap[k]? := hKF.block k hk
        have e2 : w.heap[k]? = some (w.heap[k]'hk) := by simp
        rw [e2]
        exact hkk k _ (by omega) (e.trans e2)
      clear hww
      simp [Leaves, settle, results, Tryz.results93, go_sem, cp, cq]
      exact HF.out
    | ok q =>
      obtain ⟨v6, ad6, rfl, hv6, hs6, hw6, _, hg6⟩ := hE
      obtain ⟨T6, u6, rfl⟩ := hv6.iface
      have g1 := hg6.oth (by decide) HC1.out
      have g2 := hg6.oth (by decide) HC2.out
      have hKF := Kw.keptBy HKW5.out hg6.kw HAD5.out
      have had6 : ∀ a, a ∈ ad6 → w.heap.size ≤ a := fun a ha => by
        obtain ⟨⟨uu, rfl, hu⟩, _⟩ := hg6
        simp at ha
        rcases ha with ha | ha
        · exact HAD5.out a ha
        · exact Nat.le_trans HKW5.out.size (hu a ha)
      have e1 : w6.cell? ⟨w.heap.size + 1, 0, none⟩ = some .nilIface := by simp [World.cell?, g1]
      have e2 : w6.frozen? ⟨w.heap.size + 1, 0, none⟩ = false := by simp [World.frozen?, g1]
      have ho : ∀ k, k ≠ w.heap.size + 1 → (w6.setCell ⟨w.heap.size + 1, 0, none⟩ (.iface T6 u6)).heap[k]? = w6.heap[k]? := fun k hk => Below.heap_setCell _ _ _ k (fun z => hk z)
      have g1' : (w6.setCell ⟨w.heap.size + 1, 0, none⟩ (.iface T6 u6)).heap[w.heap.size + 1]? = some (.cells #[.iface T6 u6] 156 (0, 0)) := by simp [World.setCell, g1, Array.getElem?_modify]
      have g2' := (ho (w.heap.size + 1 + 1) (by omega)).trans g2
      have e3 : (w6.setCell ⟨w.heap.size + 1, 0, none⟩ (.iface T6 u6)).cell? ⟨w.heap.size + 1 + 1, 0, none⟩ = some .nilIface := by rw [World.cell?]; simp only [g2']; rfl
      have e4 : (w6.setCell ⟨w.heap.size + 1, 0, none⟩ (.iface T6 u6)).frozen? ⟨w.heap.size + 1 + 1, 0, none⟩ = false := by rw [World.frozen?]; simp only [g2']; rfl
      have hka := Kept.again g2'
      have hb1 : ¬ w.heap.size + 1 ∈ ad6 := fun z => by
        obtain ⟨τ, s1, _⟩ := hs6
        obtain ⟨oo, h8, cs', ee, ff, rfl, ht⟩ := s1.tb z
        rw [g1] at h8
        simp only [Option.some.injEq, Obj.cells.injEq] at h8
        obtain ⟨_, rfl, _⟩ := h8
        rcases ht with e | e | e | e <;> cases e
      have hs7 : SX (w6.setCell ⟨w.heap.size + 1, 0, none⟩ (.iface T6 u6)) ad6 q.2 := hs6.keep (fun b oo hb hbo => (ho b (fun z => hb1 (z ▸ hb))).trans hbo)
      have hK7 : Kept w (w6.setCell ⟨w.heap.size + 1, 0, none⟩ (.iface T6 u6)) := ⟨hKF.os, hKF.output, by simpa using hKF.size, fun k hk => (ho k (by omega)).trans (hKF.block k hk)⟩
      have HF : Hid (Kept w ((w6.setCell ⟨w.heap.size + 1, 0, none⟩ (.iface T6 u6)).setCell ⟨w.heap.size + 1 + 1, 0, none⟩ .nilIface) ∧ TtO A w (.returned (.tuple #[.iface T6 u6, .nilIface])) ((w6.setCell ⟨w.heap.size + 1, 0, none⟩ (.iface T6 u6)).setCell ⟨w.heap.size + 1 + 1, 0, none⟩ .nilIface) none (.ok q)) := ⟨hK7.trans hka, T6, u6, ad6, rfl, hv6, hs7.kept hka, had6⟩
      have x1 := hka.blk g1'
      have x2 := hka.blk g2'
      have cp : ((w6.setCell ⟨w.heap.size + 1, 0, none⟩ (.iface T6 u6)).setCell ⟨w.heap.size + 1 + 1, 0, none⟩ .nilIface).cell? ⟨w.heap.size + 1, 0, none⟩ = some (.iface T6 u6) := by rw [World.cell?]; simp only [x1]; rfl
      have cq : ((w6.setCell ⟨w.heap.size + 1, 0, none⟩ (.iface T6 u6)).setCell ⟨w.heap.size + 1 + 1, 0, none⟩ .nilIface).cell? ⟨w.heap.size + 1 + 1, 0, none⟩ = some .nilIface := by rw [World.cell?]; simp only [x2]; rfl
      clear hs7 hK7 hka hb1 had6 hKF g1 g2 g1' g2' ho x1 x2 hv6 hs6 hw6 hg6 HT
      go_wp2_with fail
      refine leaves_cons (f := 124) (args := #[.pointer (some ⟨w.heap.size + 1, 0, none⟩), .pointer (some ⟨w.heap.size + 1 + 1, 0, none⟩)]) (by simp) (by simp [go_sem]) ?_
      refine (catchY_idle ⟨w.heap.size + 1, 0, none⟩ ⟨w.heap.size + 1 + 1, 0, none⟩ _).mono ?_
      rintro e u' w'' ⟨rfl, rfl, rfl⟩
      simp [Leaves, settle, results, Tryz.results93, go_sem, cp, cq]
      exact HF.out
end Go.Proofs.YtleenphlgbklmaaGreatDoor

namespace Go.Proofs.YtleenphlgbklmaaGreatDoor
open Go.RowKit

theorem treeF_dn : ∀ (n : Nat) {σ : St} {r : TR} {t : Ty}, treeF n σ r = some t → Dn σ r t := by
  intro n
  induction n with
  | zero => intro σ r t h; simp [treeF] at h
  | succ n ih =>
    intro σ r t h
    simp only [treeF, Option.bind_eq_some_iff] at h
    obtain ⟨r0, hr, h⟩ := h
    have hr := repF_rp _ hr
    cases r0 with
    | int => simp only [Option.some.injEq] at h; subst h; exact .int r hr
    | bool => simp only [Option.some.injEq] at h; subst h; exact .bool r hr
    | nd k i =>
      obtain ⟨nk, rfl, hi⟩ := hr.rt
      simp only [hi] at h
      cases nk with
      | vr nm g => simp only [Option.some.injEq] at h; subst h; exact .var r i hr
      | ls x =>
        simp only [Option.bind_eq_some_iff, Option.some.injEq] at h
        obtain ⟨a, ha, rfl⟩ := h
        exact .list r i x a hr hi (ih ha)
      | pr x y =>
        simp only [Option.bind_eq_some_iff, Option.some.injEq] at h
        obtain ⟨a, ha, c, hc, rfl⟩ := h
        exact .pair r i x y a c hr hi (ih ha) (ih hc)
      | ar x y =>
        simp only [Option.bind_eq_some_iff, Option.some.injEq] at h
        obtain ⟨a, ha, c, hc, rfl⟩ := h
        exact .fn r i x y a c hr hi (ih ha) (ih hc)
set_option maxRecDepth 20000 in
theorem watch_err (s : ByteArray) (em : Nat) (fl : Int) (w : World) (R : TypeId → Value → World → Prop) (HP : Hid (Calls Tryz.prog 93 #[.agg #[.int .i64 fl, .nilFunc], .string s, .map (some em)] w fun e w' => ∃ T z, e = .returned (.tuple #[.nilIface, .iface T z]) ∧ Hid (R T z w'))) :
    Calls Tryz.prog 63 #[.string s, .map (some em), .int .i64 fl, .nilFunc] w fun e w' => ∃ T z, e = .returned (.tuple #[.string { data := #[] }, .iface T z]) ∧ Hid (R T z w') := by
  go_enter Tryz.func63, Tryz.ntmps63
  go_wp2_with fail
  refine Calls.mono HP.out ?_
  rintro e w1 ⟨T, z, rfl, HR⟩
  clear HP
  go_wp2
  exact bodyPost_ret (v := .tuple #[.string { data := #[] }, .iface T z]) (by simp [results, Tryz.results63, go_sem]) rfl ⟨T, z, rfl, HR⟩
set_option maxRecDepth 20000 in
theorem watch_ok (s : ByteArray) (em : Nat) (fl : Int) (w : World) (t : Ty) (hs : sz t ≤ 120) (HP : Hid (Calls Tryz.prog 93 #[.agg #[.int .i64 fl, .nilFunc], .string s, .map (some em)] w fun e w' => ∃ v ad σ r, e = .returned (.tuple #[v, .nilIface]) ∧ SX w' ad σ ∧ RV ad r v ∧ Dn σ r t ∧ (∀ c, c ∈ ad → w.heap.size ≤ c) ∧ Kept w w')) :
    Calls Tryz.prog 63 #[.string s, .map (some em), .int .i64 fl, .nilFunc] w fun e w' => e = .returned (.tuple #[.string (canT t), .nilIface]) ∧ Kept w w' := by
  go_enter Tryz.func63, Tryz.ntmps63
  go_wp2_with fail
  refine Calls.mono HP.out ?_
  rintro e w1 ⟨v, ad, σ, r, rfl, hx, hv, hd, hA, hk1⟩
  have HN : Hid _ := pnio_any w1
  have HS : Hid (∀ w2 nb mb, w2.heap[nb]? = some (.cells #[.map (some mb)] 215 (0, 0)) → NM w2 mb [] → Kp (fun _ => False) w1 w2 → Calls Tryz.prog 81 #[v, .func (.func 113) #[] #[.pointer (some ⟨nb, 0, none⟩)]] w2 fun e w' => e = .returned (.string (canT t)) ∧ SX w' ad σ ∧ Kt ad (· = mb) w2 w') := fun w2 nb mb h1 h2 h3 => show_num w2 nb mb ad σ r t v (hx.keep (fun _ _ _ ho => h3.blk ho id)) hv hd (by omega) h1 (by have := h2.mp; simpa [nFrom] using this)
  obtain ⟨T, u, rfl⟩ := hv.iface
  have HK1 : Hid _ := hk1
  clear HP hx hv hd hk1
  go_wp2_with fail
  refine Calls.mono HN.out ?_
  rintro e w2 ⟨nb, mb, rfl, hb2, hm2, hk2, hmb⟩
  have HS2 : Hid _ := HS.out w2 nb mb hb2 hm2 hk2
  clear HN HS hb2 hm2
  go_wp2_with fail
  refine Calls.mono HS2.out ?_
  rintro e w3 ⟨rfl, _, hk3⟩
  have HKF : Hid (Kept w w3) := Kt.keptFrom (HK1.out.trans (Kept.of0 hk2)) hk3 (fun q hq z => by
    have z : q = mb := z
    have := HK1.out.size
    omega) hA
  clear HS2 hk3 hk2 HK1
  go_wp2
  exact bodyPost_ret (v := .tuple #[.string (canT t), .nilIface]) (by simp [results, Tryz.results63, go_sem]) rfl ⟨rfl, HKF.out⟩
set_option maxRecDepth 20000 in
theorem infer_del (s : ByteArray) (em : Nat) (fl : Int) (w : World) (R : Value → World → Prop) (HP : Hid (Calls Tryz.prog 63 #[.string s, .map (some em), .int .i64 fl, .nilFunc] w fun e w' => ∃ a b, e = .returned (.tuple #[a, b]) ∧ R (.tuple #[a, b]) w')) :
    Calls Tryz.prog 54 #[.string s, .map (some em), .int .i64 fl] w fun e w' => ∃ v, e = .returned v ∧ R v w' := by
  go_enter Tryz.func54, Tryz.ntmps54
  go_wp2_with fail
  refine Calls.mono HP.out ?_
  rintro e w1 ⟨a, b, rfl, hR⟩
  have HR : Hid _ := hR
  clear HP hR
  go_wp2
  exact bodyPost_ret (v := .tuple #[a, b]) (by simp [results, Tryz.results54, go_sem]) rfl ⟨_, rfl, HR.out⟩
/-- what a text is typed to: a type's text, a refusal, a name that does not stand. -/
inductive IfO where
  | txt (t : ByteArray) | sen (j : Nat) | unb (loc : Nat) (n : ByteArray)
def inferF (rk : Bool) (fl : Nat) (s : ByteArray) (kvs : List (ByteArray × ByteArray)) : Option IfO :=
  (exO s).bind fun x => (gvF kvs [] []).bind fun g => (chkF rk g.1 500 x []).bind fun ck => match ck with
    | some q => some (.unb q.1 q.2)
    | none => (typF tlN rk g.1 fl 500 x [] g.2 ()).bind fun r => match r.1 with
      | .er j => some (.sen j)
      | .ok q => (treeF 500 q.2 q.1).bind fun t => if sz t ≤ 120 then some (.txt (canT t)) else none
/-- how Infer ends. -/
def InfO (A : Nat → Addr) : IfO → Value → World → Prop
  | .txt t, v, _ => v = .tuple #[.string t, .nilIface]
  | .sen j, v, _ => v = .tuple #[.string { data := #[] }, .iface 407 (.pointer (some (A j)))]
  | .unb loc n, v, w' => ∃ b, v = .tuple #[.string { data := #[] }, .iface 135 (.pointer (some ⟨b, 0, none⟩))] ∧ w'.heap[b]? = some (.cells #[.int .i64 loc, .string n] 148 (0, 0))
theorem infer_sx {A : Nat → Addr} {rk : Bool} {fl : Nat} {s : ByteArray} {em : Nat} {kv kvs : List (ByteArray × ByteArray)} {o : IfO} (w : World) (hG : Glb A w) (hS : SM w em kv) (hl : kv.length ≤ 1000) (hsz : ∀ y, y ∈ kv → y.1.size ≤ 1000) (hp : kvs.Perm kv) (hso : (kvs.map fun y => y.1.data.toList).Pairwise (fun x y => decide (x ≤ y) = true)) (h1 : 1 ≤ fl) (h2 : fl ≤ 12)
    (hrc : rk = true → ∀ gv f, SCk gv f → SCg gv f) (hrt : rk = true → ∀ B gv f, STf A B KN gv fl .nilFunc f → SGr tlN A B KN gv fl .nilFunc f) (h : inferF rk fl s kvs = some o) :
    Calls Tryz.prog 54 #[.string s, .map (some em), .int .i64 fl] w fun e w' => ∃ v, e = .returned v ∧ Kept w w' ∧ InfO A o v w' := by
  simp only [inferF, Option.bind_eq_some_iff] at h
  obtain ⟨x, hx, ⟨gv, σ⟩, hgv, ck, hck, h⟩ := h
  cases ck with
  | some q =>
    simp only [Option.some.injEq] at h
    subst h
    have HT := tot_ty (res := .er 0) w hG hS hl hsz hp hso h1 h2 hx hgv hck (fun z => by cases z) (fun z => hrc z gv) (fun B z => hrt z B gv)
    refine infer_del s em fl w (fun v w' => Kept w w' ∧ InfO A (.unb q.1 q.2) v w') ((watch_err s em fl w (fun T z w' => Kept w w' ∧ ∃ b, T = 135 ∧ z = .pointer (some ⟨b, 0, none⟩) ∧ w'.heap[b]? = some (.cells #[.int .i64 q.1, .string q.2] 148 (0, 0))) (HT.mono (fun e w' hE => ?_))).mono ?_)
    · obtain ⟨hk, b, rfl, hb⟩ := hE
      exact ⟨_, _, rfl, hk, b, rfl, rfl, hb⟩
    · rintro e w' ⟨T, z, rfl, HR⟩
      obtain ⟨hk, b, rfl, rfl, hb⟩ := HR.out
      exact ⟨_, _, rfl, hk, b, rfl, hb⟩
  | none =>
    simp only [Option.bind_eq_some_iff] at h
    obtain ⟨⟨r, ⟨⟩⟩, hr, h⟩ := h
    have HT := tot_ty (res := r) w hG hS hl hsz hp hso h1 h2 hx hgv hck (fun _ => hr) (fun z => hrc z gv) (fun B z => hrt z B gv)
    cases r with
    | er j =>
      simp only [Option.some.injEq] at h
      subst h
      refine infer_del s em fl w (fun v w' => Kept w w' ∧ InfO A (.sen j) v w') ((watch_err s em fl w (fun T z w' => Kept w w' ∧ T = 407 ∧ z = .pointer (some (A j))) (HT.mono (fun e w' hE => ?_))).mono ?_)
      · obtain ⟨hk, rfl⟩ := hE
        exact ⟨_, _, rfl, hk, rfl, rfl⟩
      · rintro e w' ⟨T, z, rfl, HR⟩
        obtain ⟨hk, rfl, rfl⟩ := HR.out
        exact ⟨_, _, rfl, hk, rfl⟩
    | ok q =>
      simp only [Option.bind_eq_some_iff] at h
      obtain ⟨t, ht, h⟩ := h
      split at h
      · rename_i hsz'
        simp only [Option.some.injEq] at h
        subst h
        refine infer_del s em fl w (fun v w' => Kept w w' ∧ InfO A (.txt (canT t)) v w') ((watch_ok s em fl w t hsz' (HT.mono (fun e w' hE => ?_))).mono ?_)
        · obtain ⟨hk, T, u, ad, rfl, hv, hs, ha⟩ := hE
          exact ⟨_, ad, q.2, q.1, rfl, hs, hv, treeF_dn _ ht, ha, hk⟩
        · rintro e w' ⟨rfl, hk⟩
          exact ⟨_, _, rfl, hk, rfl⟩
      · simp at h
end Go.Proofs.YtleenphlgbklmaaGreatDoor
