import Derived.Test.YtleenphlgbklmaaGreatDoorTTGood
import Derived.Deep.DeepCutAuto
import Derived.Deep.LoopGhost
set_option linter.unusedVariables false
set_option linter.unusedSimpArgs false
namespace Go.Proofs.YtleenphlgbklmaaGreatDoor
open Go.RowKit

mutual
def eqM : Ty → Ty → Bool
  | .mk k n l, .mk k' n' l' => (k.data.toList == k'.data.toList) && decide (n = n') && decide (l.length = l'.length) && eqMs l l'
def eqMs : List Ty → List Ty → Bool
  | [], _ => true
  | _ :: _, [] => true
  | t :: ts, u :: us => eqM t u && eqMs ts us
end
theorem eqMs_take (ts us : List Ty) (q : Nat) (h1 : q < ts.length) (h2 : q < us.length) : eqMs (ts.take (q + 1)) (us.take (q + 1)) = (eqMs (ts.take q) (us.take q) && eqM (ts.getD q Ty.no) (us.getD q Ty.no)) := by
  induction ts generalizing us q with
  | nil => simp at h1
  | cons t ts ih =>
    cases us with
    | nil => simp at h2
    | cons u us =>
      cases q with
      | zero => simp [eqMs]
      | succ q =>
        have := ih us q (by simpa using h1) (by simpa using h2)
        simp only [List.take_succ_cons, eqMs, List.getD_cons_succ] at *
        rw [this, Bool.and_assoc]
theorem eqMs_false (ts us : List Ty) (q : Nat) (h1 : q < ts.length) (h2 : q < us.length) (h : eqM (ts.getD q Ty.no) (us.getD q Ty.no) = false) : eqMs ts us = false := by
  induction ts generalizing us q with
  | nil => simp at h1
  | cons t ts ih =>
    cases us with
    | nil => simp at h2
    | cons u us =>
      cases q with
      | zero => simp at h; simp [eqMs, h]
      | succ q =>
        simp only [eqMs]
        rw [ih us q (by simpa using h1) (by simpa using h2) (by simpa using h)]
        simp

set_option maxRecDepth 20000 in
set_option maxHeartbeats 2000000 in
theorem equal_any (x : Ty) : ∀ (w : World) (v u : Value) (y : Ty), TRep w x v → TRep w y u →
    Calls Tryz.prog 52 #[v, u] w fun e w' => e = .returned (.bool (eqM x y)) ∧ ∃ m, w' = w.drewN m := by
  induction x using Ty.ind with
  | h kd n kids ih =>
    intro w v u y h hy
    cases y with
    | mk kd' n' kids' =>
    simp only [TRep] at h hy
    obtain ⟨b, kv, ps, rfl, h2, h4, h5⟩ := h
    obtain ⟨b', kv', ps', rfl, h2', h4', h5'⟩ := hy
    obtain ⟨ao, cap, rfl, hrow⟩ := row_form h4
    obtain ⟨ao', cap', rfl, hrow'⟩ := row_form h4'
    have c0 : w.cell? ⟨b, 0, none⟩ = some (.string kd) := by simp [World.cell?, h2]
    have c1 : w.cell? ⟨b, 1, none⟩ = some (.int .i64 n) := by simp [World.cell?, h2]
    have c2 : w.cell? ⟨b, 2, none⟩ = some (.slice ao ps.length cap) := by simp [World.cell?, h2]
    have c0' : w.cell? ⟨b', 0, none⟩ = some (.string kd') := by simp [World.cell?, h2']
    have c1' : w.cell? ⟨b', 1, none⟩ = some (.int .i64 n') := by simp [World.cell?, h2']
    have c2' : w.cell? ⟨b', 2, none⟩ = some (.slice ao' ps'.length cap') := by simp [World.cell?, h2']
    have hml := row_max h4
    have hml' := row_max h4'
    have HL : Hid (ps.length = kids.length) := h5.len
    have HL' : Hid (ps'.length = kids'.length) := h5'.len
    obtain ⟨r, hr⟩ : ∃ r, r = eqM (.mk kd n kids) (.mk kd' n' kids') := ⟨_, rfl⟩
    rw [← hr]
    have E : Hid (r = ((kd.toList == kd'.toList) && decide (n = n') && decide (ps.length = ps'.length) && eqMs kids kids')) := by
      show _ = _
      rw [hr, eqM, HL.out, HL'.out, ByteArray.toList_eq, ByteArray.toList_eq]
    clear hr h2 h2'
    cases hk : (kd.toList == kd'.toList)
    · have ER : Hid (r = false) := by show _ = _; rw [E.out, hk]; rfl
      clear E hrow hrow' ih h5 h5' h4 h4'
      go_enter Tryz.func52, Tryz.ntmps52
      go_wp2
      go_quiet (fail)
      go_wp2
      go_ret
      exact ⟨by rw [ER.out]; rfl, _, rfl⟩
    · by_cases hn : n = n'
      · by_cases hll : ps.length = ps'.length
        · have ER : Hid (r = eqMs kids kids') := by show _ = _; rw [E.out, hk]; simp [hn, hll]
          subst hn
          obtain ⟨N, hN⟩ : ∃ N, N = ps.length := ⟨_, rfl⟩
          have HN : Hid (N = ps.length) := hN
          have HN' : Hid (N = ps'.length) := hN.trans hll
          rw [← HN.out] at c2 hml
          rw [← HN'.out] at c2' hml'
          have HR0 : Hid _ := hrow
          have HR1 : Hid _ := hrow'
          clear E hN hll hrow hrow'
          go_enter Tryz.func52, Tryz.ntmps52
          go_wp2
          go_quiet (fail)
          go_wp2
          clear c0 c1 c0' c1'
          go_loopw [44] (fun i wr => ∃ q m : Nat, q ≤ N ∧ i = .int .i64 q ∧ wr = w.drewN m ∧ eqMs (kids.take q) (kids'.take q) = true) (fun i _ => N - (intOf i).toNat)
          case atStart => exact ⟨0, _, Nat.zero_le _, rfl, rfl, by simp [eqMs]⟩
          case round =>
            obtain ⟨q, m, hq, rfl, hwr, heq⟩ := hrel
            have HW : Hid (wr = w.drewN m) := hwr
            have hcw : ∀ a, wr.cell? a = w.cell? a := fun a => by rw [hwr]; rfl
            have tkw : TKeep w wr := by rw [hwr]; exact TKeep.drewN _ _
            have k2 : wr.cell? ⟨b, 2, none⟩ = some (.slice ao N cap) := by rw [hcw]; exact c2
            have k2' : wr.cell? ⟨b', 2, none⟩ = some (.slice ao' N cap') := by rw [hcw]; exact c2'
            clear hwr c2 c2'
            have HEQ : Hid _ := heq
            clear heq
            by_cases hlt : q < N
            · have hlt1 : q < ps.length := by rw [← HN.out]; exact hlt
              have hlt2 : q < ps'.length := by rw [← HN'.out]; exact hlt
              obtain ⟨g, rfl, hc⟩ := HR0.out q hlt1
              obtain ⟨g', rfl, hc'⟩ := HR1.out q hlt2
              have hqk : q < kids.length := by rw [← HL.out]; exact hlt1
              have hqk' : q < kids'.length := by rw [← HL'.out]; exact hlt2
              have hf := h5.at q hqk
              have hf' := h5'.at q hqk'
              have hc2 : wr.cell? ⟨g, q, none⟩ = some (ps.getD q (.pointer none)) := by rw [hcw, hc]; simp [List.getD, hlt1]
              have hc2' : wr.cell? ⟨g', q, none⟩ = some (ps'.getD q (.pointer none)) := by rw [hcw, hc']; simp [List.getD, hlt2]
              have hmem : kids.getD q Ty.no ∈ kids := by simp [List.getD, hqk]
              have IH : Hid (∀ j, Calls Tryz.prog 52 #[ps.getD q (.pointer none), ps'.getD q (.pointer none)] (wr.drewN j) fun e w' => e = .returned (.bool (eqM (kids.getD q Ty.no) (kids'.getD q Ty.no))) ∧ ∃ k, w' = (wr.drewN j).drewN k) := fun j => ih _ hmem (wr.drewN j) _ _ _ (TRep.keep (tkw.trans (TKeep.drewN _ _)) _ hf) (TRep.keep (tkw.trans (TKeep.drewN _ _)) _ hf')
              have hst : Hid (eqMs (kids.take (q + 1)) (kids'.take (q + 1)) = (eqMs (kids.take q) (kids'.take q) && eqM (kids.getD q Ty.no) (kids'.getD q Ty.no))) := eqMs_take kids kids' q hqk hqk'
              have hfa : Hid (eqM (kids.getD q Ty.no) (kids'.getD q Ty.no) = false → r = false) := fun h => by rw [ER.out]; exact eqMs_false kids kids' q hqk hqk' h
              clear hc hc' hcw tkw HR0 HR1 hlt1 hlt2 ih h5 h5' hmem hf hf' h4 h4' ER
              generalize ps.getD q (.pointer none) = p at *
              generalize ps'.getD q (.pointer none) = p' at *
              generalize eqM (kids.getD q Ty.no) (kids'.getD q Ty.no) = d at *
              cases d
              · have hrf := hfa.out rfl
                have HR : Hid (r = false) := hrf
                clear hrf hfa hst
                go_wp2
                go_quiet ((go_at_call 52; exact Calls.quiet_of (IH.out _)))
                go_wp2
                go_ret
                exact ⟨by rw [HR.out]; rfl, _, by rw [HW.out, World.drewN_drewN]⟩
              · have E1 : Hid (eqMs (kids.take (q + 1)) (kids'.take (q + 1)) = true) := by show _ = _; rw [hst.out, HEQ.out]; rfl
                clear hst hfa
                go_wp2
                go_quiet ((go_at_call 52; exact Calls.quiet_of (IH.out _)))
                go_wp2
                go_roundw
                case rel => exact ⟨q + 1, _, by omega, by go_num, by rw [HW.out, World.drewN_drewN], E1.out⟩
                case measure => simp [intOf]; omega
            · have hq1 : q = kids.length := by rw [← HL.out, ← HN.out]; omega
              have hq2 : q = kids'.length := by rw [← HL'.out, ← HN'.out]; omega
              have HR : Hid (r = true) := by
                show _ = _
                rw [ER.out]
                have := HEQ.out
                rw [hq1, List.take_length, ← hq1, hq2, List.take_length] at this
                exact this
              clear ih h5 h5' HR0 HR1 hq1 hq2 h4 h4' ER HEQ
              go_wp2
              go_ret
              exact ⟨by rw [HR.out]; rfl, _, HW.out⟩
        · have ER : Hid (r = false) := by show _ = _; rw [E.out]; simp [hll]
          subst hn
          have hlb : ((ps.length : Int) == (ps'.length : Int)) = false := by simp; omega
          have hlb2 : ¬ (ps.length : Int) = (ps'.length : Int) := by omega
          clear E hrow hrow' ih h5 h5' h4 h4'
          go_enter Tryz.func52, Tryz.ntmps52
          go_wp2
          go_quiet (fail)
          go_wp2
          go_ret
          exact ⟨by rw [ER.out]; rfl, _, rfl⟩
      · have ER : Hid (r = false) := by show _ = _; rw [E.out]; simp [hn]
        have hnn : ((n : Int) == (n' : Int)) = false := by simp; omega
        have hnn2 : ¬ (n : Int) = (n' : Int) := by omega
        clear E hrow hrow' ih h5 h5' h4 h4'
        go_enter Tryz.func52, Tryz.ntmps52
        go_wp2
        go_quiet (fail)
        go_wp2
        go_ret
        exact ⟨by rw [ER.out]; rfl, _, rfl⟩
end Go.Proofs.YtleenphlgbklmaaGreatDoor
