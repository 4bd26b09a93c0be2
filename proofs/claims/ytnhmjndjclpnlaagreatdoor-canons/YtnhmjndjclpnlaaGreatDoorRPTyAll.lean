import Derived.Test.YtnhmjndjclpnlaaGreatDoorRPTWF
import Derived.Test.YtnhmjndjclpnlaaGreatDoorRPKq
import Derived.Defers
import Derived.Recover
import Derived.Test.YtnhmjndjclpnlaaGreatDoorRPTyC
set_option linter.unusedVariables false
set_option linter.unusedSimpArgs false
namespace Go.Proofs.YtnhmjndjclpnlaaGreatDoor
open Go.RowKit

theorem letM_pos (n : Nat) : 0 < (letM n).size := by
  unfold letM
  split
  · simp [bytesN, ByteArray.size]
  · simp [bytesN, ByteArray.size]
theorem sh_pos {m : Nat} {L : List Nat} (hd : L.Nodup) {t : Ty} (h : WT m t) (l : List Nat) (hp : varsM t l <+: L) : 0 < (shT (cnN L) t).size := by
  cases h with
  | var n hn =>
    rw [shT_var]
    have hm : n ∈ varsM (.mk { data := #[] } n []) l := by
      rw [varsM_leaf]
      split
      · rename_i e
        exact List.contains_iff_mem.1 e
      · simp
    obtain ⟨j, hj⟩ := List.getElem?_of_mem hm
    rw [cnN_get hp hd hj]
    exact letM_pos j
  | int => rw [shT_int]; decide
  | bool => rw [shT_bool]; decide
  | list a _ =>
    rw [shT_list, ByteArray.size_append, ByteArray.size_append]
    have : ({ data := #[91] } : ByteArray).size = 1 := rfl
    omega
  | pair a b _ _ =>
    rw [shT_pair, ByteArray.size_append]
    have : ({ data := #[41] } : ByteArray).size = 1 := rfl
    omega
  | fn a b _ _ =>
    rw [shT_fn, ByteArray.size_append, ByteArray.size_append]
    have : ({ data := #[32, 45, 62, 32] } : ByteArray).size = 4 := rfl
    omega
set_option maxRecDepth 20000 in
set_option maxHeartbeats 1000000 in
theorem pshow_any (w : World) (nb mb : Nat) (vb : List Nat) (t : Ty) (v : Value) (h : PTy w vb t v) (hs : sz t ≤ 260) (hnb : w.heap[nb]? = some (.cells #[.map (some mb)] 199 (0, 0))) (hm : NM w mb []) (hv : ∀ c, c ∈ vb → VBlk w c) (hi : vb.Nodup) :
    Calls Tryz.prog 72 #[v, .func (.func 103) #[] #[.pointer (some ⟨nb, 0, none⟩)]] w fun e w' => e = .returned (.string (canT t)) ∧ Kp (TS w.heap.size mb) w w' := by
  obtain ⟨T, u, rfl⟩ := h.iface
  have hd : (varsM t []).Nodup := varsM_nodup h.wt [] List.nodup_nil
  have hL : (varsM t []).length ≤ 260 := by have := (varsM_len t []).2; simp at this; omega
  have h0 : W0 w w.heap.size mb := ⟨Nat.le_refl _, _, _, hm.mp⟩
  have hpos := sh_pos hd h.wt [] (List.prefix_refl _)
  have hk : Kp (TS w.heap.size mb) w (w.alloc (.cells #[.pointer none, .slice none 0 0, .func (.func 103) #[] #[.pointer (some ⟨nb, 0, none⟩)]] 197)) := (Kp.refl _ w).alloc _
  have hkF : Kp (fun _ => False) w (w.alloc (.cells #[.pointer none, .slice none 0 0, .func (.func 103) #[] #[.pointer (some ⟨nb, 0, none⟩)]] 197)) := (Kp.refl _ w).alloc _
  have hT : TW (w.alloc (.cells #[.pointer none, .slice none 0 0, .func (.func 103) #[] #[.pointer (some ⟨nb, 0, none⟩)]] 197)) w.heap.size w.heap.size nb mb vb [] [] := by
    refine ⟨⟨Nat.le_refl _, _, _, .inl rfl, heap_alloc_new _ _, World.ownsRow_nil _ _ _ _, by simp [Value.ownBlock]⟩, hkF.blk hnb (fun z => z), lt_of_block hnb, lt_of_block hm.mp, ⟨hkF.blk hm.mp (fun z => z), by simp⟩, ?_, hi⟩
    intro c hc
    refine ⟨(hv c hc).kp hkF (fun z => z), ?_⟩
    obtain ⟨s, hs⟩ := hv c hc
    exact lt_of_block hs
  have HW : Hid _ := (tw_all (b := w.heap.size) (nb := nb) h0 hd hL h).1 _ [] [] hT hk (by simp) (List.prefix_refl _) (by simp; omega)
  have HS : Hid (∀ w', TW w' w.heap.size w.heap.size nb mb vb (varsM t []) (Lib.byteCells (shT (cnN (varsM t [])) t).data.toList) → Calls Tryz.prog 92 #[.pointer (some ⟨w.heap.size, 0, none⟩)] w' fun e w'' => e = .returned (.string (canT t)) ∧ Below w.heap.size w' w'') := fun w' hT' => (bstr_any 197 w.heap.size w.heap.size _ _ w' hT'.bw (by
      intro z
      have : (shT (cnN (varsM t [])) t).data.size = 0 := by rw [← Array.length_toList, z]; rfl
      have e : (shT (cnN (varsM t [])) t).size = (shT (cnN (varsM t [])) t).data.size := rfl
      omega)).mono (fun e w'' ⟨h1, h2⟩ => ⟨by rw [h1]; rfl, h2⟩)
  clear hT hm hnb hv hi h hpos hL hd h0 hkF
  go_enter Tryz.func72, Tryz.ntmps72
  go_wp2_with (go_at_call 102; refine Calls.mono HW.out ?_; rintro e w2 ⟨rfl, bs2, hT2, hB2, _, _, hk2⟩; rw [List.nil_append, Lib.strCells_eq] at hB2; rw [hB2] at hT2; clear hB2)
  go_wp2_with (go_at_call 92; refine Calls.mono (HS.out w2 hT2) ?_; rintro e w3 ⟨rfl, hb3⟩)
  go_ret
  refine ⟨rfl, (hk.trans hk2).trans ⟨hb3.os, hb3.tape, hb3.output, hb3.size, fun q hq hn => hb3.block q ?_⟩⟩
  exact Nat.lt_of_not_le (fun z => hn (.inl z))
end Go.Proofs.YtnhmjndjclpnlaaGreatDoor

namespace Go.Proofs.YtnhmjndjclpnlaaGreatDoor
open Go.RowKit
theorem Tryz.mkN (w : World) : (Instr.makeMap 199 none).run Tryz.prog w = .ok (.map (some w.heap.size)) (w.alloc (.map #[] 0)) := by kernel_rfl
set_option maxRecDepth 20000 in
theorem pnio_any (w : World) : Calls Tryz.prog 73 #[] w fun e w' => ∃ nb mb, e = .returned (.func (.func 103) #[] #[.pointer (some ⟨nb, 0, none⟩)]) ∧ w'.heap[nb]? = some (.cells #[.map (some mb)] 199 (0, 0)) ∧ NM w' mb [] ∧ Kp (fun _ => False) w w' ∧ w.heap.size ≤ mb := by
  have m1 := Tryz.mkN w
  go_enter Tryz.func73, Tryz.ntmps73
  go_wp2
  go_ret
  have hk1 : Kp (fun _ => False) (w.alloc (.map #[] 0)) ((w.alloc (.map #[] 0)).alloc (.cells #[.map (some w.heap.size)] 199)) := (Kp.refl _ _).alloc _
  refine ⟨w.heap.size + 1, w.heap.size, rfl, ?_, ⟨hk1.blk (heap_alloc_new _ _) (fun z => z), by simp⟩, ((Kp.refl _ w).alloc _).trans hk1, Nat.le_refl _⟩
  have := heap_alloc_new (w.alloc (.map #[] 0)) (.cells #[.map (some w.heap.size)] 199)
  simpa using this
theorem VM.vblk {w : World} {mb : Nat} {names : List ByteArray} {vb : List Nat} (h : VM w mb names vb) : ∀ c, c ∈ vb → VBlk w c := by
  intro c hc
  obtain ⟨j, hj, rfl⟩ := List.getElem_of_mem hc
  have := h.vr j (h.len ▸ hj)
  have e : vb.getD j 0 = vb[j] := by simp [List.getD, hj]
  rw [e] at this
  exact ⟨_, this⟩
theorem VM.nodup {w : World} {mb : Nat} {names : List ByteArray} {vb : List Nat} (h : VM w mb names vb) (hn : names.Nodup) : vb.Nodup := by
  refine List.pairwise_iff_getElem.2 ?_
  intro i j hi hj hij e
  have h1 := h.vr i (h.len ▸ hi)
  have h2 := h.vr j (h.len ▸ hj)
  have e1 : vb.getD i 0 = vb[i] := by simp [List.getD, hi]
  have e2 : vb.getD j 0 = vb[j] := by simp [List.getD, hj]
  rw [e1, e] at h1
  have hi' : i < names.length := h.len ▸ hi
  have hj' : j < names.length := h.len ▸ hj
  have g1 : names.getD i { data := #[] } = names[i] := by simp [List.getD, hi']
  have g2 : names.getD j { data := #[] } = names[j] := by simp [List.getD, hj']
  rw [e2] at h2
  rw [h2, g1, g2] at h1
  simp at h1
  exact (List.pairwise_iff_getElem.1 hn) i j hi' hj' hij h1.symm
end Go.Proofs.YtnhmjndjclpnlaaGreatDoor

namespace Go.Proofs.YtnhmjndjclpnlaaGreatDoor
open Go.RowKit

theorem Tryz.taRef (v : Value) (w : World) : (Instr.typeAssert (.iface 234 (.agg #[v])) 20 234 true).run Tryz.prog w = .ok (.tuple #[.agg #[v], .bool true]) w := by kernel_rfl
set_option maxRecDepth 20000 in
theorem prefused_any (T : TypeId) (u : Value) (w : World) : Calls Tryz.prog 86 #[.iface 234 (.agg #[.iface T u])] w fun e w' => e = .returned (.iface T u) ∧ w' = w.alloc (.cells #[.iface T u] 234) := by
  have hta := Tryz.taRef (.iface T u) w
  go_enter Tryz.func86, Tryz.ntmps86
  go_wp2
  go_ret
  exact ⟨rfl, rfl⟩
set_option maxRecDepth 20000 in
theorem catchT_idle (p q : Addr) (w : World) :
    CallsD Tryz.prog 99 #[.pointer (some p), .pointer (some q)] .returning w fun e u' w' => e = .returned (.tuple #[]) ∧ u' = .returning ∧ w' = w := by
  refine callsD_of_wpS Tryz.func99 rfl fun c₀ cs hu => ?_
  apply wpS_seq
  apply wpS_region
  simp [wpOpsS, go_sem, recoverD, hu, Tryz.ntmps99, Exit.thenS]
  refine wpS_of_wp ?_
  show Code.wp _ _ _ ⟨#[.pointer (some p), .pointer (some q), .nilIface, .nilIface, undef, undef, undef, undef], []⟩ w
  go_wp2
  cases c₀
  simp_all [bodyPostS, results, Tryz.results99]
set_option maxRecDepth 20000 in
theorem catchT_panicking (p q : Addr) (x y : Value) (T : TypeId) (z : Value) (older : List PanicEntry) (w : World) (hp : w.cell? p = some x) (hpf : w.frozen? p = false) (hq : w.cell? q = some y) (hqf : w.frozen? q = false) (hpq : p ≠ q) :
    CallsD Tryz.prog 99 #[.pointer (some p), .pointer (some q)] (.panicking ({ v := .iface 234 (.agg #[.iface T z]), recovered := false } :: older)) w fun e u' w' =>
      e = .returned (.tuple #[]) ∧ u' = .panicking ({ v := .iface 234 (.agg #[.iface T z]), recovered := true } :: older) ∧ w' = ((w.alloc (.cells #[.iface T z] 234)).setCell p .nilIface).setCell q (.iface T z) := by
  refine callsD_of_wpS Tryz.func99 rfl fun c₀ cs hu => ?_
  apply wpS_seq
  apply wpS_region
  simp [wpOpsS, go_sem, recoverD, hu, Tryz.ntmps99, Exit.thenS]
  refine wpS_of_wp ?_
  show Code.wp _ _ _ ⟨#[.pointer (some p), .pointer (some q), .iface 234 (.agg #[.iface T z]), .iface 234 (.agg #[.iface T z]), undef, undef, undef, undef], []⟩ w
  have hpl := World.block_lt_of_cell? _ _ hp
  have hql := World.block_lt_of_cell? _ _ hq
  have bp := Below.heap_alloc w (.cells #[.iface T z] 234) p.block hpl
  have bq := Below.heap_alloc w (.cells #[.iface T z] 234) q.block hql
  have hp1 := (World.cell?_of_block (a := p) bp).trans hp
  have hpf1 := (World.frozen?_of_block (a := p) bp).trans hpf
  have hq1 := (World.cell?_of_block (a := q) bq).trans hq
  have hqf1 := (World.frozen?_of_block (a := q) bq).trans hqf
  have hq2 : ((w.alloc (.cells #[.iface T z] 234)).setCell p .nilIface).cell? q = some y := (World.cell?_setCell_other _ _ _ _ hpq).trans hq1
  have hqf2 : ((w.alloc (.cells #[.iface T z] 234)).setCell p .nilIface).frozen? q = false := (World.frozen?_setCell _ _ _ _).trans hqf1
  have HR : Hid _ := prefused_any T z w
  go_wp2_with (go_at_call 86; refine Calls.mono HR.out ?_; rintro e w' ⟨rfl, hww⟩; rw [hww]; clear hww w')
  simp [bodyPostS, results, Tryz.results99]
set_option maxRecDepth 20000 in
theorem catchE_idle (p q : Addr) (w : World) :
    CallsD Tryz.prog 85 #[.pointer (some p), .pointer (some q)] .returning w fun e u' w' => e = .returned (.tuple #[]) ∧ u' = .returning ∧ w' = w := by
  refine callsD_of_wpS Tryz.func85 rfl fun c₀ cs hu => ?_
  apply wpS_seq
  apply wpS_region
  simp [wpOpsS, go_sem, recoverD, hu, Tryz.ntmps85, Exit.thenS]
  refine wpS_of_wp ?_
  show Code.wp _ _ _ ⟨#[.pointer (some p), .pointer (some q), .nilIface, .nilIface, undef, undef, undef, undef], []⟩ w
  go_wp2
  cases c₀
  simp_all [bodyPostS, results, Tryz.results85]
set_option maxRecDepth 20000 in
theorem catchE_panicking (p q : Addr) (x y : Value) (T : TypeId) (z : Value) (older : List PanicEntry) (w : World) (hp : w.cell? p = some x) (hpf : w.frozen? p = false) (hq : w.cell? q = some y) (hqf : w.frozen? q = false) (hpq : p ≠ q) :
    CallsD Tryz.prog 85 #[.pointer (some p), .pointer (some q)] (.panicking ({ v := .iface 234 (.agg #[.iface T z]), recovered := false } :: older)) w fun e u' w' =>
      e = .returned (.tuple #[]) ∧ u' = .panicking ({ v := .iface 234 (.agg #[.iface T z]), recovered := true } :: older) ∧ w' = ((w.alloc (.cells #[.iface T z] 234)).setCell p .nilIface).setCell q (.iface T z) := by
  refine callsD_of_wpS Tryz.func85 rfl fun c₀ cs hu => ?_
  apply wpS_seq
  apply wpS_region
  simp [wpOpsS, go_sem, recoverD, hu, Tryz.ntmps85, Exit.thenS]
  refine wpS_of_wp ?_
  show Code.wp _ _ _ ⟨#[.pointer (some p), .pointer (some q), .iface 234 (.agg #[.iface T z]), .iface 234 (.agg #[.iface T z]), undef, undef, undef, undef], []⟩ w
  have hpl := World.block_lt_of_cell? _ _ hp
  have hql := World.block_lt_of_cell? _ _ hq
  have bp := Below.heap_alloc w (.cells #[.iface T z] 234) p.block hpl
  have bq := Below.heap_alloc w (.cells #[.iface T z] 234) q.block hql
  have hp1 := (World.cell?_of_block (a := p) bp).trans hp
  have hpf1 := (World.frozen?_of_block (a := p) bp).trans hpf
  have hq1 := (World.cell?_of_block (a := q) bq).trans hq
  have hqf1 := (World.frozen?_of_block (a := q) bq).trans hqf
  have hq2 : ((w.alloc (.cells #[.iface T z] 234)).setCell p .nilIface).cell? q = some y := (World.cell?_setCell_other _ _ _ _ hpq).trans hq1
  have hqf2 : ((w.alloc (.cells #[.iface T z] 234)).setCell p .nilIface).frozen? q = false := (World.frozen?_setCell _ _ _ _).trans hqf1
  have HR : Hid _ := prefused_any T z w
  go_wp2_with (go_at_call 86; refine Calls.mono HR.out ?_; rintro e w' ⟨rfl, hww⟩; rw [hww]; clear hww w')
  simp [bodyPostS, results, Tryz.results85]
end Go.Proofs.YtnhmjndjclpnlaaGreatDoor

namespace Go.Proofs.YtnhmjndjclpnlaaGreatDoor
open Go.RowKit

theorem ptref_all (s : ByteArray) (kws : List ByteArray) (L : List Tk) (hE : PEnv s kws L) (hkw : kws = [{ data := #[105, 110, 116] }, { data := #[98, 111, 111, 108] }]) (n : Nat) : SPTyp s L n ∧ SPOne s L n := by
  have hki : { data := #[105, 110, 116] } ∈ kws := by rw [hkw]; simp
  have hkb : { data := #[98, 111, 111, 108] } ∈ kws := by rw [hkw]; simp
  induction n with
  | zero =>
    refine ⟨?_, ?_⟩
    · intro w rb mb k names vb t names' k' bad' h hv hok hne hM
      simp [arrowM] at hM
    · intro w rb mb k names vb t names' k' bad' h hv hok hne hM
      simp [oneM] at hM
  | succ n ih =>
    refine ⟨ptyp_step s kws L hE n ih.1 ih.2, ?_⟩
    intro w rb mb k names vb t names' k' bad' h hv hok hne hM
    simp only [oneM] at hM
    cases h0 : isM L { data := #[105, 110, 116] } k (-1)
    · rw [h0] at hM
      cases h1 : isM L { data := #[98, 111, 111, 108] } k (-1)
      · rw [h1] at hM
        cases h2 : isM L { data := #[110, 97, 109, 101] } k (-1)
        · cases h3 : isM L { data := #[91] } k (-1)
          · rw [h3] at hM
            cases h4 : isM L { data := #[40] } k (-1)
            · rw [h4] at hM
              simp only [Bool.false_eq_true, if_false, Option.some.injEq, Prod.mk.injEq] at hM
              obtain ⟨_, _, _, rfl⟩ := hM
              rw [(needB_false h2 (by omega)).1]
              exact pone_bad s kws L hE hki hkb w rb mb k names vb t names' k' h hv hok hne hkw h0 h1 h2 h3 h4
            · rw [h4] at hM
              simp only [Bool.false_eq_true, if_false, if_true] at hM
              obtain ⟨⟨x, n1, k1, b1⟩, q1, q2⟩ := Option.bind_eq_some_iff.1 hM
              exact pone_brk s kws L hE hki hkb w rb mb k names vb t names' k' bad' h hv hok hne hkw h0 h1 h2 h3 h4 (fun w1 hp1 hv1 => pbrk_any s kws L hE n ih.1 w1 rb mb k names vb x n1 k1 b1 t names' k' bad' hp1 hv1 hok hne h4 q1 q2)
          · rw [h3] at hM
            simp only [Bool.false_eq_true, if_false, if_true] at hM
            obtain ⟨⟨x, n1, k1, b1⟩, q1, q2⟩ := Option.bind_eq_some_iff.1 hM
            simp only [Option.some.injEq, Prod.mk.injEq] at q2
            obtain ⟨rfl, rfl, rfl, rfl⟩ := q2
            exact pone_list s kws L hE hki hkb w rb mb k names vb _ _ _ _ h hv hok hne hkw h0 h1 h2 h3 (fun w1 hp1 hv1 => plist_any s kws L hE n ih.1 w1 rb mb k names vb x n1 k1 b1 hp1 hv1 hok hne h3 q1)
        · have h3 : isM L { data := #[91] } k (-1) = false := by
            simp only [isM, Bool.and_eq_true] at h2
            simp only [isM]
            rw [(sameS_iff (tkAt L k).is { data := #[110, 97, 109, 101] }).1 h2.2]
            decide
          have h4 : isM L { data := #[40] } k (-1) = false := by
            simp only [isM, Bool.and_eq_true] at h2
            simp only [isM]
            rw [(sameS_iff (tkAt L k).is { data := #[110, 97, 109, 101] }).1 h2.2]
            decide
          rw [h3, h4] at hM
          simp only [Bool.false_eq_true, if_false, Option.some.injEq, Prod.mk.injEq] at hM
          obtain ⟨rfl, rfl, rfl, rfl⟩ := hM
          rw [(needB_true h2).1, (needB_true h2).2]
          exact pone_name s kws L hE hki hkb w rb mb k names vb h hv hok hne h0 h1 h2
      · rw [h1] at hM
        simp only [Bool.false_eq_true, if_false, if_true, Option.some.injEq, Prod.mk.injEq] at hM
        obtain ⟨rfl, rfl, rfl, rfl⟩ := hM
        exact pone_bool s kws L hE hki hkb w rb mb k names vb h hv hok hne h0 h1
    · rw [h0] at hM
      simp only [if_true, Option.some.injEq, Prod.mk.injEq] at hM
      obtain ⟨rfl, rfl, rfl, rfl⟩ := hM
      exact pone_int s kws L hE hki hkb w rb mb k names vb h hv hok hne h0
end Go.Proofs.YtnhmjndjclpnlaaGreatDoor
