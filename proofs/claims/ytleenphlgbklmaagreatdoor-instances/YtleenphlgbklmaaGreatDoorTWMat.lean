import Derived.Test.YtleenphlgbklmaaGreatDoorTWEq
import Derived.Test.YtleenphlgbklmaaGreatDoorTWShown
import Derived.Deep.RegionHeld3
set_option linter.unusedVariables false
set_option linter.unusedSimpArgs false
namespace Go.Proofs.YtleenphlgbklmaaGreatDoor
open Go.RowKit

mutual
def matM : Ty → Ty → List (Option Ty) → List (Option Ty) × Bool
  | .mk kd n kids, .mk kd' n' kids', gs =>
    if kd.data.toList == [] then
      match gs.getD n none with
      | some t => (gs, eqM t (.mk kd' n' kids'))
      | none => (gs.set n (some (.mk kd' n' kids')), true)
    else if kd.data.toList == kd'.data.toList then matMs kids kids' gs
    else (gs, false)
def matMs : List Ty → List Ty → List (Option Ty) → List (Option Ty) × Bool
  | [], _, gs => (gs, true)
  | _ :: _, [], gs => (gs, true)
  | t :: ts, u :: us, gs => if (matM t u gs).2 then matMs ts us (matM t u gs).1 else (gs, false)
end
mutual
theorem matM_len : ∀ (a b : Ty) (gs : List (Option Ty)), (matM a b gs).1.length = gs.length
  | .mk kd n kids, .mk kd' n' kids', gs => by
    simp only [matM]
    split
    · split <;> simp
    · split
      · exact matMs_len kids kids' gs
      · rfl
theorem matMs_len : ∀ (ts us : List Ty) (gs : List (Option Ty)), (matMs ts us gs).1.length = gs.length
  | [], _, gs => by simp [matMs]
  | _ :: _, [], gs => by simp [matMs]
  | t :: ts, u :: us, gs => by
    simp only [matMs]
    split
    · rw [matMs_len ts us, matM_len t u]
    · rfl
end
/-- the first q parts go. -/
theorem matMs_take (ts us : List Ty) (gs : List (Option Ty)) (q : Nat) (h1 : q < ts.length) (h2 : q < us.length) (h : (matMs (ts.take q) (us.take q) gs).2 = true) :
    matMs (ts.take (q + 1)) (us.take (q + 1)) gs = if (matM (ts.getD q Ty.no) (us.getD q Ty.no) (matMs (ts.take q) (us.take q) gs).1).2 then ((matM (ts.getD q Ty.no) (us.getD q Ty.no) (matMs (ts.take q) (us.take q) gs).1).1, true) else ((matMs (ts.take q) (us.take q) gs).1, false) := by
  induction ts generalizing us gs q with
  | nil => simp at h1
  | cons t ts ih =>
    cases us with
    | nil => simp at h2
    | cons u us =>
      cases q with
      | zero =>
        simp only [List.take_succ_cons, List.take_zero, matMs, List.getD_cons_zero]
      | succ q =>
        simp only [List.take_succ_cons, matMs, List.getD_cons_succ] at h ⊢
        split
        · rename_i e
          rw [if_pos e] at h
          exact ih us _ q (by simpa using h1) (by simpa using h2) h
        · rename_i e
          rw [if_neg e] at h
          simp at h
theorem matMs_stop (ts us : List Ty) (gs : List (Option Ty)) (q : Nat) (h1 : q < ts.length) (h2 : q < us.length) (h : (matMs (ts.take q) (us.take q) gs).2 = true)
    (hf : (matM (ts.getD q Ty.no) (us.getD q Ty.no) (matMs (ts.take q) (us.take q) gs).1).2 = false) : matMs ts us gs = ((matMs (ts.take q) (us.take q) gs).1, false) := by
  induction ts generalizing us gs q with
  | nil => simp at h1
  | cons t ts ih =>
    cases us with
    | nil => simp at h2
    | cons u us =>
      cases q with
      | zero =>
        simp only [List.take_zero, matMs, List.getD_cons_zero] at hf ⊢
        rw [if_neg (by simp [hf])]
      | succ q =>
        simp only [List.take_succ_cons, matMs, List.getD_cons_succ] at h hf ⊢
        by_cases e : (matM t u gs).2 = true
        · rw [if_pos e] at h hf ⊢
          rw [if_pos e]
          exact ih us _ q (by simpa using h1) (by simpa using h2) h hf
        · rw [if_neg e] at h
          simp at h

def GOne (w : World) : Option Ty → Value → Prop
  | none, p => p = .pointer none
  | some t, p => TRep w t p
/-- what variables stand for, as a list of pointers. -/
def GRow (w : World) (gv : Value) (gs : List (Option Ty)) : Prop := ∃ ps, w.ownsRow 0 33 1 gv ps.length ps ∧ ps.length = gs.length ∧ ∀ i, i < gs.length → GOne w (gs.getD i none) (ps.getD i (.pointer none))
theorem GOne.keep {w w' : World} (hk : TKeep w w') : ∀ {g : Option Ty} {p : Value}, GOne w g p → GOne w' g p
  | none, p, h => h
  | some t, p, h => TRep.keep hk t h
theorem GRow.keep {w w' : World} (hk : TKeep w w') {gv : Value} {gs : List (Option Ty)} (h : GRow w gv gs) : GRow w' gv gs := by
  obtain ⟨ps, h1, h2, h3⟩ := h
  exact ⟨ps, ownsRow_tkeep h1 hk, h2, fun i hi => GOne.keep hk (h3 i hi)⟩
theorem TKeep.size {w w' : World} (h : ∀ k, k < w.heap.size → w'.heap[k]? = w.heap[k]?) : TKeep w w' := fun k cs e f _ hk => (h k (lt_of_block hk)).trans hk
theorem WT.arity {m m' : Nat} {kd : ByteArray} {n n' : Nat} {kids kids' : List Ty} (h : WT m (.mk kd n kids)) (h' : WT m' (.mk kd n' kids')) (hk : ¬ kd.data.toList = []) : kids.length = kids'.length := by
  cases h <;> cases h' <;> first | rfl | simp at hk
theorem WT.kids {m : Nat} {kd : ByteArray} {n : Nat} {kids : List Ty} (h : WT m (.mk kd n kids)) : ∀ y, y ∈ kids → WT m y := by
  cases h with
  | var n hn => intro y hy; cases hy
  | int => intro y hy; cases hy
  | bool => intro y hy; cases hy
  | list a ha => intro y hy; simp at hy; subst hy; exact ha
  | pair a b ha hb => intro y hy; simp at hy; rcases hy with rfl | rfl; exact ha; exact hb
  | fn a b ha hb => intro y hy; simp at hy; rcases hy with rfl | rfl; exact ha; exact hb
theorem Tryz.info33 : (Tryz.prog.info? 33).map (fun i => (i.zero, i.size, i.bytes)) = some (some (.pointer none), 1, 8) := by kernel_rfl

def SMat (a : Ty) : Prop := ∀ (w : World) (va vb gv : Value) (b : Ty) (gs : List (Option Ty)) (m m' : Nat), WT m a → WT m' b → TRep w a va → TRep w b vb → GRow w gv gs → gs.length = m → m ≤ 1000 →
  Calls Tryz.prog 22 #[va, vb, gv] w fun e w' => ∃ gv', e = .returned (.tuple #[gv', .bool (matM a b gs).2]) ∧ GRow w' gv' (matM a b gs).1 ∧ Below w.heap.size w w'

set_option maxRecDepth 20000 in
set_option maxHeartbeats 2000000 in
theorem mat_var (n : Nat) : SMat (.mk { data := #[] } n []) := by
  intro w va vb gv b gs m m' hwa hwb ha hb hg hgm hm
  have hn : n < gs.length := by
    rw [hgm]
    cases hwa with
    | var n hn => exact hn
  simp only [TRep, TReps] at ha
  obtain ⟨pb, lv, ps0, rfl, h2, _, _⟩ := ha
  have hg' := hg
  obtain ⟨ps, hrow, hpl, hall⟩ := hg
  obtain ⟨ao, cap, rfl, hao⟩ := row_form0 hrow
  obtain ⟨g, rfl⟩ := hao (by omega)
  obtain ⟨vbb, rfl⟩ := hb.ptr
  have c0 : w.cell? ⟨pb, 0, none⟩ = some (.string { data := #[] }) := by simp [World.cell?, h2]
  have c1 : w.cell? ⟨pb, 1, none⟩ = some (.int .i64 n) := by simp [World.cell?, h2]
  have hnp : n < ps.length := by omega
  have cm : w.cell? ⟨g, n, none⟩ = some (ps.getD n (.pointer none)) := by
    rw [hrow.cellAt n (by omega)]
    simp [List.getD, hnp]
  have hon := hall n hn
  have hml := row_max hrow
  have hps : ps.length ≤ 1000 := by omega
  have HPL : Hid (ps.length = gs.length) := hpl
  clear hpl hgm
  cases hgn : gs.getD n none with
  | some t =>
    rw [hgn] at hon
    have hon : TRep w t (ps.getD n (.pointer none)) := hon
    obtain ⟨tb, htb⟩ := hon.ptr
    rw [htb] at cm hon
    have E : Hid (matM (.mk { data := #[] } n []) b gs = (gs, eqM t b)) := by
      cases b
      simp only [Hid, matM, hgn]
      rfl
    have HEQ : Hid (∀ k, Calls Tryz.prog 52 #[.pointer (some ⟨tb, 0, none⟩), .pointer (some ⟨vbb, 0, none⟩)] (w.drewN k) fun e w' => e = .returned (.bool (eqM t b)) ∧ ∃ j, w' = (w.drewN k).drewN j) := fun k => equal_any t (w.drewN k) _ _ b (TRep.keep (TKeep.drewN _ _) t hon) (TRep.keep (TKeep.drewN _ _) b hb)
    rw [E.out]
    simp only
    generalize eqM t b = r at *
    clear h2 hall hrow hon hb hao
    go_enter Tryz.func22, Tryz.ntmps22
    go_wp2_with fail
    refine Calls.mono (HEQ.out 0) ?_
    rintro e w1 ⟨rfl, j, rfl⟩
    go_wp2
    exact bodyPost_ret (v := .tuple #[.slice (some ⟨g, 0, none⟩) ps.length cap, .bool r]) (by simp [results, Tryz.results22, go_sem]) rfl ⟨_, rfl, GRow.keep (TKeep.drewN _ _) hg', ⟨rfl, rfl, rfl, Nat.le_refl _, fun _ _ => rfl⟩⟩
  | none =>
    rw [hgn] at hon
    have hon : ps.getD n (.pointer none) = .pointer none := hon
    rw [hon] at cm
    have E : Hid (matM (.mk { data := #[] } n []) b gs = (gs.set n (some b), true)) := by
      cases b
      simp only [Hid, matM, hgn]
      rfl
    rw [E.out]
    simp only
    clear h2 hao
    obtain ⟨iT, hiT, hzT0, hzT1, hzT2⟩ := info_parts Tryz.info33
    have hone : ∀ u, u ∈ ps → u.oneCell' = true := fun u hu => by
      obtain ⟨i, hi, rfl⟩ := List.getElem_of_mem hu
      have := hall i (by rw [← HPL.out]; exact hi)
      have hgd : ps.getD i (.pointer none) = ps[i] := by simp [List.getD, hi]
      rw [hgd] at this
      cases hgi : gs.getD i none with
      | none => rw [hgi] at this; have : ps[i] = .pointer none := this; rw [this]; rfl
      | some t => rw [hgi] at this; obtain ⟨q, hq⟩ := TRep.ptr this; rw [hq]; rfl
    have hcells : ∀ j u, ps[j]? = some u → w.cell? ((⟨g, 0, none⟩ : Addr).add j) = some u := fun j u hj => by
      have hjl : j < ps.length := (List.getElem?_eq_some_iff.1 hj).1
      have := hrow.cellAt j (by omega)
      have hadd : (⟨g, 0, none⟩ : Addr).add j = ⟨g, j, none⟩ := by simp [Addr.add]; omega
      rw [hadd, this, hj]
    have HONE : Hid _ := hone
    have HCELLS : Hid _ := hcells
    have HALL : Hid _ := hall
    clear hone hcells hall
    go_enter Tryz.func22, Tryz.ntmps22
    go_wp2_with (at_builtin; refine wpList_append_own2 _ rfl (.const (.slice none 0 0)) (.tmp 34) 40 rfl w.heap.size 33 iT (.pointer none) 1 8 Tryz.underlying40 hiT hzT0 hzT1 hzT2 rfl (by decide) (.slice none 0 0) 0 [] rfl (World.ownsRow_nil _ _ _ _) ⟨g, 0, none⟩ ps.length cap ps rfl (by simp) HCELLS.out HONE.out (by unfold maxLen; omega) (by omega) (Nat.le_refl _) (by omega) ?_)
    intro g2 cap2 w2 hown2 hg2 hfr2
    have hg2b : w.heap.size ≤ g2 := by
      rcases hfr2 with e | e
      · cases e
      · exact e
    have hbl : ∀ k, k < w.heap.size → w2.heap[k]? = w.heap[k]? := fun k hk => hg2.block k hk (by simp [Value.ownBlock])
    have d0 : w2.cell? ⟨pb, 0, none⟩ = some (.string { data := #[] }) := (World.cell?_of_block (hbl pb (World.block_lt_of_cell? _ _ c0))).trans c0
    have d1 : w2.cell? ⟨pb, 1, none⟩ = some (.int .i64 n) := (World.cell?_of_block (hbl pb (World.block_lt_of_cell? _ _ c1))).trans c1
    have hown3 : w2.ownsRow w.heap.size 33 1 (.slice (some ⟨g2, 0, none⟩) ps.length cap2) ps.length ps := by simpa using hown2
    have x1 : w2.cell? ⟨g2, n, none⟩ = some (ps.getD n (.pointer none)) := by
      rw [hown3.cellAt n (by omega)]
      simp [List.getD, hnp]
    have f1 := hown3.frozenAt n
    have st := (hown3.stored n (.pointer (some ⟨vbb, 0, none⟩))).1
    have hB3 : Below w.heap.size w (w2.setCell ⟨g2, n, none⟩ (.pointer (some ⟨vbb, 0, none⟩))) := by
      have : Below w.heap.size w w2 := ⟨hg2.os, hg2.tape, hg2.output, hg2.size, hbl⟩
      exact this.setCell (by exact hg2b) _
    have hG3 : GRow (w2.setCell ⟨g2, n, none⟩ (.pointer (some ⟨vbb, 0, none⟩))) (.slice (some ⟨g2, 0, none⟩) ps.length cap2) (gs.set n (some b)) := by
      have tk3 : TKeep w (w2.setCell ⟨g2, n, none⟩ (.pointer (some ⟨vbb, 0, none⟩))) := TKeep.below hB3
      refine ⟨ps.set n (.pointer (some ⟨vbb, 0, none⟩)), ?_, by simp; exact HPL.out, ?_⟩
      · have := ownsRow_base st (Nat.zero_le _)
        simpa using this
      · intro i hi
        simp at hi
        by_cases e : i = n
        · subst e
          have e1 : (gs.set i (some b)).getD i none = some b := by simp [List.getD, hi]
          have e2 : (ps.set i (.pointer (some ⟨vbb, 0, none⟩))).getD i (.pointer none) = .pointer (some ⟨vbb, 0, none⟩) := by simp [List.getD, hnp]
          rw [e1, e2]
          exact TRep.keep tk3 b hb
        · have e1 : (gs.set n (some b)).getD i none = gs.getD i none := by simp [List.getD, List.getElem?_set, Ne.symm e]
          have e2 : (ps.set n (.pointer (some ⟨vbb, 0, none⟩))).getD i (.pointer none) = ps.getD i (.pointer none) := by simp [List.getD, List.getElem?_set, Ne.symm e]
          rw [e1, e2]
          exact GOne.keep tk3 (HALL.out i hi)
    clear hg2 hbl hown2 hown3 st HALL HCELLS HONE hrow hg'
    go_wp2
    exact bodyPost_ret (v := .tuple #[.slice (some ⟨g2, 0, none⟩) ps.length cap2, .bool true]) (by simp [results, Tryz.results22, go_sem]) rfl ⟨_, rfl, hG3, hB3⟩

set_option maxRecDepth 20000 in
set_option maxHeartbeats 2000000 in
theorem mat_other (kd : ByteArray) (n : Nat) (kids : List Ty) (hk : (kd.toList == []) = false) (kd' : ByteArray) (n' : Nat) (kids' : List Ty) (hkk : (kd.toList == kd'.toList) = false) (w : World) (va vb gv : Value) (gs : List (Option Ty)) (ha : TRep w (.mk kd n kids) va) (hb : TRep w (.mk kd' n' kids') vb) (hg : GRow w gv gs) :
    Calls Tryz.prog 22 #[va, vb, gv] w fun e w' => ∃ gv', e = .returned (.tuple #[gv', .bool false]) ∧ GRow w' gv' gs ∧ Below w.heap.size w w' := by
  have hg' := hg
  obtain ⟨ps, hrow, hpl, hall⟩ := hg
  obtain ⟨ao, cap, rfl, hao⟩ := row_form0 hrow
  simp only [TRep] at ha hb
  obtain ⟨pb, lv, ps0, rfl, h2, _, _⟩ := ha
  obtain ⟨pb', lv', ps0', rfl, h2', _, _⟩ := hb
  have c0 : w.cell? ⟨pb, 0, none⟩ = some (.string kd) := by simp [World.cell?, h2]
  have c0' : w.cell? ⟨pb', 0, none⟩ = some (.string kd') := by simp [World.cell?, h2']
  clear hrow hpl hall hao h2 h2'
  go_enter Tryz.func22, Tryz.ntmps22
  go_wp2
  go_quiet (fail)
  go_wp2
  exact bodyPost_ret (v := .tuple #[.slice ao ps.length cap, .bool false]) (by simp [results, Tryz.results22, go_sem]) rfl ⟨_, rfl, GRow.keep (TKeep.drewN _ _) hg', ⟨rfl, rfl, rfl, Nat.le_refl _, fun _ _ => rfl⟩⟩

set_option maxRecDepth 20000 in
set_option maxHeartbeats 2000000 in
theorem mat_node (kd : ByteArray) (n : Nat) (kids : List Ty) (ih : ∀ y, y ∈ kids → SMat y) (hk : (kd.toList == []) = false) : SMat (.mk kd n kids) := by
  intro w va vb gv b gs m m' hwa hwb ha hb hg hgm hm
  cases b with
  | mk kd' n' kids' =>
  cases hkk : (kd.toList == kd'.toList)
  · have E : matM (.mk kd n kids) (.mk kd' n' kids') gs = (gs, false) := by
      simp only [matM]
      rw [ByteArray.toList_eq] at hk hkk
      rw [ByteArray.toList_eq] at hkk
      simp [hk, hkk]
    rw [E]
    exact mat_other kd n kids hk kd' n' kids' hkk w va vb gv gs ha hb hg
  · have hkd : kd = kd' := by
      rw [ByteArray.toList_eq, ByteArray.toList_eq] at hkk
      exact (sameS_iff kd kd').1 hkk
    subst hkd
    have E : Hid (matM (.mk kd n kids) (.mk kd n' kids') gs = matMs kids kids' gs) := by
      simp only [Hid, matM]
      have h1 := hk
      rw [ByteArray.toList_eq] at h1
      simp [h1]
    have hne : ¬ kd.data.toList = [] := by
      rw [ByteArray.toList_eq] at hk
      simpa using hk
    have har := hwa.arity hwb hne
    have hka := hwa.kids
    have hkb := hwb.kids
    rw [E.out]
    obtain ⟨R, hR⟩ : ∃ R, R = matMs kids kids' gs := ⟨_, rfl⟩
    rw [← hR]
    have HR : Hid (R = matMs kids kids' gs) := hR
    clear hR E
    simp only [TRep] at ha hb
    obtain ⟨pb, lv, ps, rfl, h2, h4, h5⟩ := ha
    obtain ⟨pb', lv', ps', rfl, h2', h4', h5'⟩ := hb
    obtain ⟨ao, cap, rfl, hrow⟩ := row_form h4
    obtain ⟨ao', cap', rfl, hrow'⟩ := row_form h4'
    obtain ⟨gps, hgr, hgpl, hgall⟩ := hg
    have hg : GRow w gv gs := ⟨gps, hgr, hgpl, hgall⟩
    obtain ⟨gao, gcap, rfl, _⟩ := row_form0 hgr
    have c0 : w.cell? ⟨pb, 0, none⟩ = some (.string kd) := by simp [World.cell?, h2]
    have c2 : w.cell? ⟨pb, 2, none⟩ = some (.slice ao ps.length cap) := by simp [World.cell?, h2]
    have c0' : w.cell? ⟨pb', 0, none⟩ = some (.string kd) := by simp [World.cell?, h2']
    have c2' : w.cell? ⟨pb', 2, none⟩ = some (.slice ao' ps'.length cap') := by simp [World.cell?, h2']
    have hml := row_max h4
    have HL : Hid (ps.length = kids.length) := h5.len
    have HL' : Hid (ps'.length = kids'.length) := h5'.len
    have HAR : Hid (kids.length = kids'.length) := har
    have HGM : Hid (gs.length = m) := hgm
    have hpl : ps'.length = ps.length := by rw [HL'.out, HL.out, har]
    rw [hpl] at c2'
    obtain ⟨N, hN⟩ : ∃ N, N = ps.length := ⟨_, rfl⟩
    have HN : Hid (N = ps.length) := hN
    have HN' : Hid (N = ps'.length) := hN.trans hpl.symm
    rw [← hN] at c2 c2' hml
    have HR0 : Hid _ := hrow
    have HR1 : Hid _ := hrow'
    have hll : (kd.toList == kd.toList) = true := by simp
    clear har hgm hpl hN hrow hrow' hgpl hgall h2 h2'
    go_enter Tryz.func22, Tryz.ntmps22
    go_wp2
    go_quiet (fail)
    go_wp2
    have hBq : Below w.heap.size w (w.drewN nq) := ⟨rfl, rfl, rfl, Nat.le_refl _, fun _ _ => rfl⟩
    have hgq : GRow (w.drewN nq) (.slice gao gps.length gcap) gs := GRow.keep (TKeep.drewN _ _) hg
    generalize w.drewN nq = w0 at *
    clear hg hgr hll
    go_loopw [2, 59] (fun gq i wr => ∃ q : Nat, q ≤ N ∧ i = .int .i64 q ∧ GRow wr gq (matMs (kids.take q) (kids'.take q) gs).1 ∧ (matMs (kids.take q) (kids'.take q) gs).2 = true ∧ Below w.heap.size w wr) (fun _ i _ => N - (intOf i).toNat)
    case atStart => exact ⟨0, Nat.zero_le _, rfl, by simpa [matMs] using hgq, by simp [matMs], hBq⟩
    case round =>
      clear hgq hBq
      obtain ⟨q, hq, rfl, hgr, hok, hBr⟩ := hrel
      have tkr : TKeep w wr := TKeep.below hBr
      have k2 : wr.cell? ⟨pb, 2, none⟩ = some (.slice ao N cap) := (hBr.cell (World.block_lt_of_cell? _ _ c2)).trans c2
      have k2' : wr.cell? ⟨pb', 2, none⟩ = some (.slice ao' N cap') := (hBr.cell (World.block_lt_of_cell? _ _ c2')).trans c2'
      have hgr' := hgr
      obtain ⟨gpq, hgo, hx1, hx2⟩ := hgr
      clear hx1 hx2
      obtain ⟨gaq, gcq, hform, _⟩ := row_form0 hgo
      subst hform
      have HOK : Hid _ := hok
      clear hok
      by_cases hlt : q < N
      · have hlt1 : q < ps.length := by rw [← HN.out]; exact hlt
        have hlt2 : q < ps'.length := by rw [← HN'.out]; exact hlt
        obtain ⟨g, rfl, hc⟩ := HR0.out q hlt1
        obtain ⟨g', rfl, hc'⟩ := HR1.out q hlt2
        have hqk : q < kids.length := by rw [← HL.out]; exact hlt1
        have hqk' : q < kids'.length := by rw [← HL'.out]; exact hlt2
        have hf := h5.at q hqk
        have hf' := h5'.at q hqk'
        have hc2 : wr.cell? ⟨g, q, none⟩ = some (ps.getD q (.pointer none)) := by
          have hcc : w.cell? ⟨g, q, none⟩ = some (ps.getD q (.pointer none)) := by rw [hc]; simp [List.getD, hlt1]
          exact (hBr.cell (World.block_lt_of_cell? _ _ hcc)).trans hcc
        have hc2' : wr.cell? ⟨g', q, none⟩ = some (ps'.getD q (.pointer none)) := by
          have hcc : w.cell? ⟨g', q, none⟩ = some (ps'.getD q (.pointer none)) := by rw [hc']; simp [List.getD, hlt2]
          exact (hBr.cell (World.block_lt_of_cell? _ _ hcc)).trans hcc
        have hmem : kids.getD q Ty.no ∈ kids := by simp [List.getD, hqk]
        have hmem' : kids'.getD q Ty.no ∈ kids' := by simp [List.getD, hqk']
        have hgl : (matMs (kids.take q) (kids'.take q) gs).1.length = m := by rw [matMs_len]; exact HGM.out
        have IH : Hid (∀ w0, TKeep wr w0 → Calls Tryz.prog 22 #[ps.getD q (.pointer none), ps'.getD q (.pointer none), .slice gaq gpq.length gcq] w0 fun e w' => ∃ gv', e = .returned (.tuple #[gv', .bool (matM (kids.getD q Ty.no) (kids'.getD q Ty.no) (matMs (kids.take q) (kids'.take q) gs).1).2]) ∧ GRow w' gv' (matM (kids.getD q Ty.no) (kids'.getD q Ty.no) (matMs (kids.take q) (kids'.take q) gs).1).1 ∧ Below w0.heap.size w0 w') := fun w0 hk0 =>
          ih _ hmem w0 _ _ _ _ _ m m' (hka _ hmem) (hkb _ hmem') (TRep.keep (tkr.trans hk0) _ hf) (TRep.keep (tkr.trans hk0) _ hf') (GRow.keep hk0 hgr') hgl hm
        have hst : Hid (matMs (kids.take (q + 1)) (kids'.take (q + 1)) gs = if (matM (kids.getD q Ty.no) (kids'.getD q Ty.no) (matMs (kids.take q) (kids'.take q) gs).1).2 then ((matM (kids.getD q Ty.no) (kids'.getD q Ty.no) (matMs (kids.take q) (kids'.take q) gs).1).1, true) else ((matMs (kids.take q) (kids'.take q) gs).1, false)) := matMs_take kids kids' gs q hqk hqk' HOK.out
        have hsp : Hid ((matM (kids.getD q Ty.no) (kids'.getD q Ty.no) (matMs (kids.take q) (kids'.take q) gs).1).2 = false → R = ((matMs (kids.take q) (kids'.take q) gs).1, false)) := fun h => by rw [HR.out]; exact matMs_stop kids kids' gs q hqk hqk' HOK.out h
        have HGR : Hid _ := hgr'
        clear hc hc' HR0 HR1 hlt1 hlt2 h5 h5' hmem hmem' hf hf' h4 h4' hka hkb hgl tkr hgo hgr' ih c0 c0' c2 c2' HOK
        generalize ps.getD q (.pointer none) = p at *
        generalize ps'.getD q (.pointer none) = p' at *
        generalize (matMs (kids.take q) (kids'.take q) gs).1 = gq at *
        generalize matM (kids.getD q Ty.no) (kids'.getD q Ty.no) gq = res at *
        obtain ⟨g1, d⟩ := res
        simp only at IH hst hsp
        go_wp2
        cases d
        · have HRR : Hid (R = (gq, false)) := hsp.out rfl
          clear hsp hst
          go_region_held3 (fun w' => w'.cell? ⟨pb, 2, none⟩ = some (.slice (some ⟨g, 0, none⟩) N cap) ∧ w'.cell? ⟨pb', 2, none⟩ = some (.slice (some ⟨g', 0, none⟩) N cap') ∧ w'.cell? ⟨g, q, none⟩ = some p ∧ w'.cell? ⟨g', q, none⟩ = some p') (go_keep) (first | (go_at_call 22; refine (IH.out _ ?_).mono ?_; exact TKeep.drew _; rintro e w4 ⟨gv4, rfl, hg4, hB4⟩; have s1 := (hB4.cell (World.block_lt_of_cell? wr _ k2)).trans k2; have s2 := (hB4.cell (World.block_lt_of_cell? wr _ k2')).trans k2'; have s3 := (hB4.cell (World.block_lt_of_cell? wr _ hc2)).trans hc2; have s4 := (hB4.cell (World.block_lt_of_cell? wr _ hc2')).trans hc2'))
          all_goals
            go_wp2
            have hB5 : Below w.heap.size w w4 := hBr.trans (Below.mono (w := wr) ⟨hB4.os, hB4.tape, hB4.output, hB4.size, hB4.block⟩ hBr.size)
            have hgF : GRow w4 (.slice gaq gpq.length gcq) gq := GRow.keep (TKeep.below (w := wr) ⟨hB4.os, hB4.tape, hB4.output, hB4.size, hB4.block⟩) HGR.out
            exact bodyPost_ret (v := .tuple #[.slice gaq gpq.length gcq, .bool false]) (by simp [results, Tryz.results22, go_sem]) rfl ⟨_, by rw [HRR.out], by rw [HRR.out]; exact hgF, hB5⟩
        · have HST : Hid (matMs (kids.take (q + 1)) (kids'.take (q + 1)) gs = (g1, true)) := by show _ = _; rw [hst.out]; rfl
          clear hsp hst
          go_region_held3 (fun w' => w'.cell? ⟨pb, 2, none⟩ = some (.slice (some ⟨g, 0, none⟩) N cap) ∧ w'.cell? ⟨pb', 2, none⟩ = some (.slice (some ⟨g', 0, none⟩) N cap') ∧ w'.cell? ⟨g, q, none⟩ = some p ∧ w'.cell? ⟨g', q, none⟩ = some p') (go_keep) (first | (go_at_call 22; refine (IH.out _ ?_).mono ?_; exact TKeep.drew _; rintro e w4 ⟨gv4, rfl, hg4, hB4⟩; have s1 := (hB4.cell (World.block_lt_of_cell? wr _ k2)).trans k2; have s2 := (hB4.cell (World.block_lt_of_cell? wr _ k2')).trans k2'; have s3 := (hB4.cell (World.block_lt_of_cell? wr _ hc2)).trans hc2; have s4 := (hB4.cell (World.block_lt_of_cell? wr _ hc2')).trans hc2'))
          all_goals
            go_wp2
            have hB5 : Below w.heap.size w w4 := hBr.trans (Below.mono (w := wr) ⟨hB4.os, hB4.tape, hB4.output, hB4.size, hB4.block⟩ hBr.size)
            refine ⟨⟨q + 1, by omega, by go_num, by rw [HST.out]; exact hg4, by rw [HST.out], hB5⟩, ?_⟩
            simp [intOf]
            omega
      · have hq1 : q = kids.length := by rw [← HL.out, ← HN.out]; omega
        have hq2 : q = kids'.length := by rw [← HL'.out, ← HN'.out]; omega
        have HRR : Hid (matMs (kids.take q) (kids'.take q) gs = R) := by
          show _ = _
          rw [HR.out]
          conv => lhs; rw [hq1, List.take_length, ← hq1, hq2, List.take_length]
        have h1 := HRR.out ▸ hgr'
        have h2 := HOK.out
        rw [HRR.out] at h2
        have HG1 : Hid _ := h1
        have HG2 : Hid _ := h2
        clear ih h5 h5' HR0 HR1 hq1 hq2 h4 h4' hgr' hgo h1 h2 hka hkb
        go_wp2
        exact bodyPost_ret (v := .tuple #[.slice gaq gpq.length gcq, .bool true]) (by simp [results, Tryz.results22, go_sem]) rfl ⟨_, by rw [HG2.out], HG1.out, hBr⟩

theorem matched_any (a : Ty) : SMat a := by
  induction a using Ty.ind with
  | h kd n kids ih =>
    cases hk : (kd.toList == [])
    · exact mat_node kd n kids ih hk
    · intro w va vb gv b gs m m' hwa
      have hkd : kd = { data := #[] } := by
        rw [ByteArray.toList_eq] at hk
        exact (sameS_iff kd { data := #[] }).1 hk
      subst hkd
      have hkids : kids = [] := by
        cases hwa with
        | var n hn => rfl
      subst hkids
      exact mat_var n w va vb gv b gs m m' hwa
end Go.Proofs.YtleenphlgbklmaaGreatDoor
