import Derived.Test.YtleenphlgbklmabGreatDoorXPMatC
import Derived.Test.YtleenphlgbklmabGreatDoorXPMatD
import Derived.Test.YtleenphlgbklmabGreatDoorXPMatE
import Derived.Defers
import Derived.Recover
import Derived.Test.YtleenphlgbklmabGreatDoorXPKq
import Derived.Test.YtleenphlgbklmabGreatDoorXPTyC
import Derived.Test.YtleenphlgbklmabGreatDoorXPDep
set_option linter.unusedVariables false
set_option linter.unusedSimpArgs false
namespace Go.Proofs.YtleenphlgbklmabGreatDoor
open Go.RowKit

set_option maxRecDepth 20000 in
set_option maxHeartbeats 1000000 in
theorem mt_base_walk (w : World) (mb : Nat) (kd : ByteArray) (x : Value) (r : Bool) (hx : ∃ T z, x = .iface T z) (he : ∀ w', (Op.equal 77 (.iface 271 (.agg #[.string kd])) x).run Tryz.prog w' = .ok r w') :
    Calls Tryz.prog 41 #[.map (some mb), .iface 271 (.agg #[.string kd]), x] w fun e w' => e = .returned (.bool r) ∧ Kept w w' := by
  obtain ⟨T, z, rfl⟩ := hx
  have t1 := Tryz.taBV (.agg #[.string kd]) w
  have t2 := Tryz.taBL (.agg #[.string kd]) w
  have t3 := Tryz.taBP (.agg #[.string kd]) w
  have t4 := Tryz.taBA (.agg #[.string kd]) w
  have hb : (binOp BinOp.eql 77 (.iface 271 (.agg #[.string kd])) (.iface T z)).run Tryz.prog w = .ok (.bool r) w := by
    have he := he w
    simp [binOp, he, Result.andThen]
  clear he
  go_enter Tryz.func41, Tryz.ntmps41
  go_wp2
  go_ret
  exact ⟨rfl, Kept.refl w⟩
theorem mt_base (names own : List ByteArray) (kd : ByteArray) (hk : kd = { data := #[105, 110, 116] } ∨ kd = { data := #[98, 111, 111, 108] }) : SMt names own (.mk kd 0 []) := by
  intro w mb vg vs kv gs lo hi lo2 hi2 u v x h hv hx hsz
  have hv' : v = .iface 271 (.agg #[.string kd]) := by
    rcases hk with rfl | rfl
    · cases hv with
      | base _ _ _ _ _ => rfl
    · cases hv with
      | base _ _ _ _ _ => rfl
  subst hv'
  have hk0 : (kd.data.toList == []) = false := by rcases hk with rfl | rfl <;> decide
  have fin : ∀ r : Bool, (matM (.mk kd 0 []) u gs) = (gs, r) → (∀ w', (Op.equal 77 (.iface 271 (.agg #[.string kd])) x).run Tryz.prog w' = .ok r w') → Calls Tryz.prog 41 #[.map (some mb), .iface 271 (.agg #[.string kd]), x] w fun e w' => ∃ kv', e = .returned (.bool (matM (.mk kd 0 []) u gs).2) ∧ SM w' mb kv' ∧ ((matM (.mk kd 0 []) u gs).2 = true → MG names own kv' (matM (.mk kd 0 []) u gs).1) ∧ Kq (· = mb) w w' := by
    intro r e1 e2
    rw [e1]
    refine (mt_base_walk w mb kd x r hx.iface e2).mono ?_
    rintro e w' ⟨rfl, hk⟩
    exact ⟨kv, rfl, ⟨hk.blk h.sm.mp, h.sm.nd⟩, fun _ => h.mg, Kq.of_kept hk⟩
  cases hx with
  | var n c _ _ _ hc => exact fin false (matM_other _ _ _ _ _ _ _ hk0 (by rcases hk with rfl | rfl <;> decide)) (fun w' => eq_no _ _ (by decide) _ _ w')
  | list _ c _ _ _ _ hc _ _ _ => exact fin false (matM_other _ _ _ _ _ _ _ hk0 (by rcases hk with rfl | rfl <;> decide)) (fun w' => eq_no _ _ (by decide) _ _ w')
  | pair _ _ c _ _ _ _ _ _ hc _ _ _ _ => exact fin false (matM_other _ _ _ _ _ _ _ hk0 (by rcases hk with rfl | rfl <;> decide)) (fun w' => eq_no _ _ (by decide) _ _ w')
  | fn _ _ c _ _ _ _ _ _ hc _ _ _ _ => exact fin false (matM_other _ _ _ _ _ _ _ hk0 (by rcases hk with rfl | rfl <;> decide)) (fun w' => eq_no _ _ (by decide) _ _ w')
  | base kd2 _ _ _ hk2 =>
    rcases hk with rfl | rfl <;> rcases hk2 with rfl | rfl
    · exact fin true (by simp [matM, matMs]) Tryz.eqII
    · exact fin false (matM_other _ _ _ _ _ _ _ (by decide) (by decide)) Tryz.eqIB
    · exact fin false (matM_other _ _ _ _ _ _ _ (by decide) (by decide)) Tryz.eqBI
    · exact fin true (by simp [matM, matMs]) Tryz.eqBB
end Go.Proofs.YtleenphlgbklmabGreatDoor

namespace Go.Proofs.YtleenphlgbklmabGreatDoor
open Go.RowKit

theorem mt_pair (names own : List ByteArray) (a d : Ty) (ih : SMt names own a) (ih2 : SMt names own d) : SMt names own (.mk { data := #[112, 97, 105, 114] } 0 [a, d]) := by
  intro w mb vg vs kv gs lo hi lo2 hi2 u v x h hv hx hsz
  have hmp := h.sm.mp
  have hno : ∀ (k' : ByteArray) (n' : Nat) (l' : List Ty), u = .mk k' n' l' → (({ data := #[112, 97, 105, 114] } : ByteArray).data.toList == k'.data.toList) = false → (Instr.typeAssert x 77 153 true).run Tryz.prog w = .ok (.tuple #[.pointer none, .bool false]) w → Calls Tryz.prog 41 #[.map (some mb), v, x] w fun e w' => ∃ kv', e = .returned (.bool (matM (.mk { data := #[112, 97, 105, 114] } 0 [a, d]) u gs).2) ∧ SM w' mb kv' ∧ ((matM (.mk { data := #[112, 97, 105, 114] } 0 [a, d]) u gs).2 = true → MG names own kv' (matM (.mk { data := #[112, 97, 105, 114] } 0 [a, d]) u gs).1) ∧ Kq (· = mb) w w' := by
    rintro k' n' l' rfl hk hta
    rw [matM_other _ _ _ _ _ _ _ (by decide) hk]
    cases hv with
    | pair _ _ b p q _ m k _ hb ha hd h1 h2 =>
      refine (mt_pair_no w mb b x hx.iface hta).mono ?_
      rintro e w' ⟨rfl, hk⟩
      exact ⟨kv, rfl, ⟨hk.blk h.sm.mp, h.sm.nd⟩, fun z => by simp at z, Kq.of_kept hk⟩
  cases hx with
  | var n c _ _ _ hc => exact hno _ _ _ rfl (by decide) (Tryz.taVP _ w)
  | base kd _ _ _ hk => exact hno _ _ _ rfl (by rcases hk with rfl | rfl <;> decide) (Tryz.taBP _ w)
  | list _ c _ _ _ _ hc _ _ _ => exact hno _ _ _ rfl (by decide) (Tryz.taLP _ w)
  | fn _ _ c _ _ _ _ _ _ hc _ _ _ _ => exact hno _ _ _ rfl (by decide) (Tryz.taAP _ w)
  | pair y t c q1 q2 _ m2 k2 _ hc hy ht h3 h4 =>
    cases hv with
    | pair _ _ b p1 p2 _ m k _ hb ha hd h1 h2 =>
      have hsy : sz y ≤ 120 ∧ sz t ≤ 120 := by simp only [sz, szs] at hsz; omega
      obtain ⟨T1, z1, rfl⟩ := ha.iface
      obtain ⟨T2, z2, rfl⟩ := hd.iface
      obtain ⟨T3, z3, rfl⟩ := hy.iface
      obtain ⟨T4, z4, rfl⟩ := ht.iface
      have hkd : Kept w w.drew := (Kept.refl w).drw
      have hM := matM_two { data := #[112, 97, 105, 114] } (by decide) a d y t gs
      have cells : ∀ w', Kq (· = mb) w w' → w'.cell? ⟨b, 1, none⟩ = some (.iface T1 z1) ∧ w'.cell? ⟨b, 2, none⟩ = some (.iface T2 z2) ∧ w'.cell? ⟨c, 1, none⟩ = some (.iface T3 z3) ∧ w'.cell? ⟨c, 2, none⟩ = some (.iface T4 z4) := fun w' hq => by
        have hb' := (hq.block b (lt_of_block hb) (fun z => by rw [show b = mb from z, hmp] at hb; cases hb)).trans hb
        have hc' := (hq.block c (lt_of_block hc) (fun z => by rw [show c = mb from z, hmp] at hc; cases hc)).trans hc
        simp [World.cell?, hb', hc']
      obtain ⟨cb1, cb2, cc1, cc2⟩ := cells w (Kq.of_kept (Kept.refl w))
      have H1 := ih w.drew mb vg vs kv gs _ _ _ _ y _ _ ⟨⟨h.ng.1, h.ng.2⟩, ⟨h.ns.1, h.ns.2⟩, h.nd, ⟨h.sm.mp, h.sm.nd⟩, h.mg⟩ (ha.keep (PKeep.kept hkd)) (hy.keep (PKeep.kept hkd)) hsy.1
      cases hB : (matM a y gs).2 with
      | false =>
        rw [hM, hB]
        rw [hB] at H1
        have HM : Hid (Calls Tryz.prog 41 #[.map (some mb), .iface T1 z1, .iface T3 z3] w.drew fun e w' => e = .returned (.bool false) ∧ Hid (∃ kv', SM w' mb kv' ∧ Kq (· = mb) w w') ∧ w'.cell? ⟨b, 1, none⟩ = some (.iface T1 z1) ∧ w'.cell? ⟨b, 2, none⟩ = some (.iface T2 z2) ∧ w'.cell? ⟨c, 1, none⟩ = some (.iface T3 z3) ∧ w'.cell? ⟨c, 2, none⟩ = some (.iface T4 z4)) := by
          refine H1.mono ?_
          rintro e w' ⟨kv', rfl, g1, g2, g3⟩
          have hq := (Kq.of_kept hkd).trans g3
          exact ⟨rfl, ⟨kv', g1, hq⟩, cells w' hq⟩
        refine (mt_pair_ff w mb b c T1 T2 T3 T4 z1 z2 z3 z4 _ cb1 cb2 cc1 cc2 HM).mono ?_
        rintro e w' ⟨rfl, hR⟩
        obtain ⟨kv', g1, g2⟩ := hR.out
        exact ⟨kv', rfl, g1, fun z => by simp at z, g2⟩
      | true =>
        rw [hM, hB]
        simp only [if_true]
        rw [hB] at H1
        have HM : Hid (Calls Tryz.prog 41 #[.map (some mb), .iface T1 z1, .iface T3 z3] w.drew fun e w' => e = .returned (.bool true) ∧ Hid (∃ kv', SM w' mb kv' ∧ MG names own kv' (matM a y gs).1 ∧ Kq (· = mb) w w') ∧ w'.cell? ⟨b, 1, none⟩ = some (.iface T1 z1) ∧ w'.cell? ⟨b, 2, none⟩ = some (.iface T2 z2) ∧ w'.cell? ⟨c, 1, none⟩ = some (.iface T3 z3) ∧ w'.cell? ⟨c, 2, none⟩ = some (.iface T4 z4)) := by
          refine H1.mono ?_
          rintro e w' ⟨kv', rfl, g1, g2, g3⟩
          have hq := (Kq.of_kept hkd).trans g3
          exact ⟨rfl, ⟨kv', g1, g2 rfl, hq⟩, cells w' hq⟩
        have HM2 : Hid (∀ w1, Hid (∃ kv', SM w1 mb kv' ∧ MG names own kv' (matM a y gs).1 ∧ Kq (· = mb) w w1) → Calls Tryz.prog 41 #[.map (some mb), .iface T2 z2, .iface T4 z4] w1 fun e w' => ∃ r, e = .returned (.bool r) ∧ Hid (∃ kv', r = (matM d t (matM a y gs).1).2 ∧ SM w' mb kv' ∧ ((matM d t (matM a y gs).1).2 = true → MG names own kv' (matM d t (matM a y gs).1).1) ∧ Kq (· = mb) w w') ∧ w'.cell? ⟨b, 1, none⟩ = some (.iface T1 z1) ∧ w'.cell? ⟨b, 2, none⟩ = some (.iface T2 z2) ∧ w'.cell? ⟨c, 1, none⟩ = some (.iface T3 z3) ∧ w'.cell? ⟨c, 2, none⟩ = some (.iface T4 z4)) := by
          intro w1 hR
          obtain ⟨kv', g1, g2, g3⟩ := hR.out
          refine (ih2 w1 mb vg vs kv' _ _ _ _ _ t _ _ ⟨h.ng.kq g3 hmp, h.ns.kq g3 hmp, h.nd, g1, g2⟩ (hd.kq g3 hmp) (ht.kq g3 hmp) hsy.2).mono ?_
          rintro e w' ⟨kv2, rfl, f1, f2, f3⟩
          have hq := g3.trans f3
          exact ⟨_, rfl, ⟨kv2, rfl, f1, f2, hq⟩, cells w' hq⟩
        refine (mt_pair_tt w mb b c T1 T2 T3 T4 z1 z2 z3 z4 _ _ cb1 cb2 cc1 cc2 HM HM2).mono ?_
        rintro e w' ⟨r, rfl, hR⟩
        obtain ⟨kv', e1, g1, g2, g3⟩ := hR.out
        subst e1
        cases hB2 : (matM d t (matM a y gs).1).2 with
        | false => exact ⟨kv', rfl, g1, fun z => by simp at z, g3⟩
        | true => exact ⟨kv', rfl, g1, fun _ => g2 hB2, g3⟩
theorem mt_fn (names own : List ByteArray) (a d : Ty) (ih : SMt names own a) (ih2 : SMt names own d) : SMt names own (.mk { data := #[102, 117, 110] } 0 [a, d]) := by
  intro w mb vg vs kv gs lo hi lo2 hi2 u v x h hv hx hsz
  have hmp := h.sm.mp
  have hno : ∀ (k' : ByteArray) (n' : Nat) (l' : List Ty), u = .mk k' n' l' → (({ data := #[102, 117, 110] } : ByteArray).data.toList == k'.data.toList) = false → (Instr.typeAssert x 77 157 true).run Tryz.prog w = .ok (.tuple #[.pointer none, .bool false]) w → Calls Tryz.prog 41 #[.map (some mb), v, x] w fun e w' => ∃ kv', e = .returned (.bool (matM (.mk { data := #[102, 117, 110] } 0 [a, d]) u gs).2) ∧ SM w' mb kv' ∧ ((matM (.mk { data := #[102, 117, 110] } 0 [a, d]) u gs).2 = true → MG names own kv' (matM (.mk { data := #[102, 117, 110] } 0 [a, d]) u gs).1) ∧ Kq (· = mb) w w' := by
    rintro k' n' l' rfl hk hta
    rw [matM_other _ _ _ _ _ _ _ (by decide) hk]
    cases hv with
    | fn _ _ b p q _ m k _ hb ha hd h1 h2 =>
      refine (mt_fn_no w mb b x hx.iface hta).mono ?_
      rintro e w' ⟨rfl, hk⟩
      exact ⟨kv, rfl, ⟨hk.blk h.sm.mp, h.sm.nd⟩, fun z => by simp at z, Kq.of_kept hk⟩
  cases hx with
  | var n c _ _ _ hc => exact hno _ _ _ rfl (by decide) (Tryz.taVA _ w)
  | base kd _ _ _ hk => exact hno _ _ _ rfl (by rcases hk with rfl | rfl <;> decide) (Tryz.taBA _ w)
  | list _ c _ _ _ _ hc _ _ _ => exact hno _ _ _ rfl (by decide) (Tryz.taLA _ w)
  | pair _ _ c _ _ _ _ _ _ hc _ _ _ _ => exact hno _ _ _ rfl (by decide) (Tryz.taPA _ w)
  | fn y t c q1 q2 _ m2 k2 _ hc hy ht h3 h4 =>
    cases hv with
    | fn _ _ b p1 p2 _ m k _ hb ha hd h1 h2 =>
      have hsy : sz y ≤ 120 ∧ sz t ≤ 120 := by simp only [sz, szs] at hsz; omega
      obtain ⟨T1, z1, rfl⟩ := ha.iface
      obtain ⟨T2, z2, rfl⟩ := hd.iface
      obtain ⟨T3, z3, rfl⟩ := hy.iface
      obtain ⟨T4, z4, rfl⟩ := ht.iface
      have hkd : Kept w w.drew := (Kept.refl w).drw
      have hM := matM_two { data := #[102, 117, 110] } (by decide) a d y t gs
      have cells : ∀ w', Kq (· = mb) w w' → w'.cell? ⟨b, 1, none⟩ = some (.iface T1 z1) ∧ w'.cell? ⟨b, 2, none⟩ = some (.iface T2 z2) ∧ w'.cell? ⟨c, 1, none⟩ = some (.iface T3 z3) ∧ w'.cell? ⟨c, 2, none⟩ = some (.iface T4 z4) := fun w' hq => by
        have hb' := (hq.block b (lt_of_block hb) (fun z => by rw [show b = mb from z, hmp] at hb; cases hb)).trans hb
        have hc' := (hq.block c (lt_of_block hc) (fun z => by rw [show c = mb from z, hmp] at hc; cases hc)).trans hc
        simp [World.cell?, hb', hc']
      obtain ⟨cb1, cb2, cc1, cc2⟩ := cells w (Kq.of_kept (Kept.refl w))
      have H1 := ih w.drew mb vg vs kv gs _ _ _ _ y _ _ ⟨⟨h.ng.1, h.ng.2⟩, ⟨h.ns.1, h.ns.2⟩, h.nd, ⟨h.sm.mp, h.sm.nd⟩, h.mg⟩ (ha.keep (PKeep.kept hkd)) (hy.keep (PKeep.kept hkd)) hsy.1
      cases hB : (matM a y gs).2 with
      | false =>
        rw [hM, hB]
        rw [hB] at H1
        have HM : Hid (Calls Tryz.prog 41 #[.map (some mb), .iface T1 z1, .iface T3 z3] w.drew fun e w' => e = .returned (.bool false) ∧ Hid (∃ kv', SM w' mb kv' ∧ Kq (· = mb) w w') ∧ w'.cell? ⟨b, 1, none⟩ = some (.iface T1 z1) ∧ w'.cell? ⟨b, 2, none⟩ = some (.iface T2 z2) ∧ w'.cell? ⟨c, 1, none⟩ = some (.iface T3 z3) ∧ w'.cell? ⟨c, 2, none⟩ = some (.iface T4 z4)) := by
          refine H1.mono ?_
          rintro e w' ⟨kv', rfl, g1, g2, g3⟩
          have hq := (Kq.of_kept hkd).trans g3
          exact ⟨rfl, ⟨kv', g1, hq⟩, cells w' hq⟩
        refine (mt_fn_ff w mb b c T1 T2 T3 T4 z1 z2 z3 z4 _ cb1 cb2 cc1 cc2 HM).mono ?_
        rintro e w' ⟨rfl, hR⟩
        obtain ⟨kv', g1, g2⟩ := hR.out
        exact ⟨kv', rfl, g1, fun z => by simp at z, g2⟩
      | true =>
        rw [hM, hB]
        simp only [if_true]
        rw [hB] at H1
        have HM : Hid (Calls Tryz.prog 41 #[.map (some mb), .iface T1 z1, .iface T3 z3] w.drew fun e w' => e = .returned (.bool true) ∧ Hid (∃ kv', SM w' mb kv' ∧ MG names own kv' (matM a y gs).1 ∧ Kq (· = mb) w w') ∧ w'.cell? ⟨b, 1, none⟩ = some (.iface T1 z1) ∧ w'.cell? ⟨b, 2, none⟩ = some (.iface T2 z2) ∧ w'.cell? ⟨c, 1, none⟩ = some (.iface T3 z3) ∧ w'.cell? ⟨c, 2, none⟩ = some (.iface T4 z4)) := by
          refine H1.mono ?_
          rintro e w' ⟨kv', rfl, g1, g2, g3⟩
          have hq := (Kq.of_kept hkd).trans g3
          exact ⟨rfl, ⟨kv', g1, g2 rfl, hq⟩, cells w' hq⟩
        have HM2 : Hid (∀ w1, Hid (∃ kv', SM w1 mb kv' ∧ MG names own kv' (matM a y gs).1 ∧ Kq (· = mb) w w1) → Calls Tryz.prog 41 #[.map (some mb), .iface T2 z2, .iface T4 z4] w1 fun e w' => ∃ r, e = .returned (.bool r) ∧ Hid (∃ kv', r = (matM d t (matM a y gs).1).2 ∧ SM w' mb kv' ∧ ((matM d t (matM a y gs).1).2 = true → MG names own kv' (matM d t (matM a y gs).1).1) ∧ Kq (· = mb) w w') ∧ w'.cell? ⟨b, 1, none⟩ = some (.iface T1 z1) ∧ w'.cell? ⟨b, 2, none⟩ = some (.iface T2 z2) ∧ w'.cell? ⟨c, 1, none⟩ = some (.iface T3 z3) ∧ w'.cell? ⟨c, 2, none⟩ = some (.iface T4 z4)) := by
          intro w1 hR
          obtain ⟨kv', g1, g2, g3⟩ := hR.out
          refine (ih2 w1 mb vg vs kv' _ _ _ _ _ t _ _ ⟨h.ng.kq g3 hmp, h.ns.kq g3 hmp, h.nd, g1, g2⟩ (hd.kq g3 hmp) (ht.kq g3 hmp) hsy.2).mono ?_
          rintro e w' ⟨kv2, rfl, f1, f2, f3⟩
          have hq := g3.trans f3
          exact ⟨_, rfl, ⟨kv2, rfl, f1, f2, hq⟩, cells w' hq⟩
        refine (mt_fn_tt w mb b c T1 T2 T3 T4 z1 z2 z3 z4 _ _ cb1 cb2 cc1 cc2 HM HM2).mono ?_
        rintro e w' ⟨r, rfl, hR⟩
        obtain ⟨kv', e1, g1, g2, g3⟩ := hR.out
        subst e1
        cases hB2 : (matM d t (matM a y gs).1).2 with
        | false => exact ⟨kv', rfl, g1, fun z => by simp at z, g3⟩
        | true => exact ⟨kv', rfl, g1, fun _ => g2 hB2, g3⟩
/-- match finds what makes a type of another, as the document has it. -/
theorem mt_all (names own : List ByteArray) (hC : MC names own) {m : Nat} {a : Ty} (h : WT m a) : SMt names own a := by
  induction h with
  | var n hn => exact mt_var names own hC n
  | int => exact mt_base names own _ (.inl rfl)
  | bool => exact mt_base names own _ (.inr rfl)
  | list a _ ih => exact mt_list names own a ih
  | pair a b _ _ ih ih2 => exact mt_pair names own a b ih ih2
  | fn a b _ _ ih ih2 => exact mt_fn names own a b ih ih2
end Go.Proofs.YtleenphlgbklmabGreatDoor

namespace Go.Proofs.YtleenphlgbklmabGreatDoor
open Go.RowKit

theorem Tryz.taRef (v : Value) (w : World) : (Instr.typeAssert (.iface 185 (.agg #[v])) 20 185 true).run Tryz.prog w = .ok (.tuple #[.agg #[v], .bool true]) w := by kernel_rfl
set_option maxRecDepth 20000 in
theorem prefused_any (T : TypeId) (u : Value) (w : World) : Calls Tryz.prog 49 #[.iface 185 (.agg #[.iface T u])] w fun e w' => e = .returned (.iface T u) ∧ w' = w.alloc (.cells #[.iface T u] 185) := by
  have hta := Tryz.taRef (.iface T u) w
  go_enter Tryz.func49, Tryz.ntmps49
  go_wp2
  go_ret
  exact ⟨rfl, rfl⟩
set_option maxRecDepth 20000 in
theorem catchT_idle (p q : Addr) (w : World) :
    CallsD Tryz.prog 48 #[.pointer (some p), .pointer (some q)] .returning w fun e u' w' => e = .returned (.tuple #[]) ∧ u' = .returning ∧ w' = w := by
  refine callsD_of_wpS Tryz.func48 rfl fun c₀ cs hu => ?_
  apply wpS_seq
  apply wpS_region
  simp [wpOpsS, go_sem, recoverD, hu, Tryz.ntmps48, Exit.thenS]
  refine wpS_of_wp ?_
  show Code.wp _ _ _ ⟨#[.pointer (some p), .pointer (some q), .nilIface, .nilIface, undef, undef, undef, undef], []⟩ w
  go_wp2
  cases c₀
  simp_all [bodyPostS, results, Tryz.results48]
set_option maxRecDepth 20000 in
theorem catchT_panicking (p q : Addr) (x y : Value) (T : TypeId) (z : Value) (older : List PanicEntry) (w : World) (hp : w.cell? p = some x) (hpf : w.frozen? p = false) (hq : w.cell? q = some y) (hqf : w.frozen? q = false) (hpq : p ≠ q) :
    CallsD Tryz.prog 48 #[.pointer (some p), .pointer (some q)] (.panicking ({ v := .iface 185 (.agg #[.iface T z]), recovered := false } :: older)) w fun e u' w' =>
      e = .returned (.tuple #[]) ∧ u' = .panicking ({ v := .iface 185 (.agg #[.iface T z]), recovered := true } :: older) ∧ w' = ((w.alloc (.cells #[.iface T z] 185)).setCell p .nilIface).setCell q (.iface T z) := by
  refine callsD_of_wpS Tryz.func48 rfl fun c₀ cs hu => ?_
  apply wpS_seq
  apply wpS_region
  simp [wpOpsS, go_sem, recoverD, hu, Tryz.ntmps48, Exit.thenS]
  refine wpS_of_wp ?_
  show Code.wp _ _ _ ⟨#[.pointer (some p), .pointer (some q), .iface 185 (.agg #[.iface T z]), .iface 185 (.agg #[.iface T z]), undef, undef, undef, undef], []⟩ w
  have hpl := World.block_lt_of_cell? _ _ hp
  have hql := World.block_lt_of_cell? _ _ hq
  have bp := Below.heap_alloc w (.cells #[.iface T z] 185) p.block hpl
  have bq := Below.heap_alloc w (.cells #[.iface T z] 185) q.block hql
  have hp1 := (World.cell?_of_block (a := p) bp).trans hp
  have hpf1 := (World.frozen?_of_block (a := p) bp).trans hpf
  have hq1 := (World.cell?_of_block (a := q) bq).trans hq
  have hqf1 := (World.frozen?_of_block (a := q) bq).trans hqf
  have hq2 : ((w.alloc (.cells #[.iface T z] 185)).setCell p .nilIface).cell? q = some y := (World.cell?_setCell_other _ _ _ _ hpq).trans hq1
  have hqf2 : ((w.alloc (.cells #[.iface T z] 185)).setCell p .nilIface).frozen? q = false := (World.frozen?_setCell _ _ _ _).trans hqf1
  have HR : Hid _ := prefused_any T z w
  go_wp2_with (go_at_call 49; refine Calls.mono HR.out ?_; rintro e w' ⟨rfl, hww⟩; rw [hww]; clear hww w')
  simp [bodyPostS, results, Tryz.results48]
set_option maxRecDepth 20000 in
theorem catchE_idle (p q : Addr) (w : World) :
    CallsD Tryz.prog 74 #[.pointer (some p), .pointer (some q)] .returning w fun e u' w' => e = .returned (.tuple #[]) ∧ u' = .returning ∧ w' = w := by
  refine callsD_of_wpS Tryz.func74 rfl fun c₀ cs hu => ?_
  apply wpS_seq
  apply wpS_region
  simp [wpOpsS, go_sem, recoverD, hu, Tryz.ntmps74, Exit.thenS]
  refine wpS_of_wp ?_
  show Code.wp _ _ _ ⟨#[.pointer (some p), .pointer (some q), .nilIface, .nilIface, undef, undef, undef, undef], []⟩ w
  go_wp2
  cases c₀
  simp_all [bodyPostS, results, Tryz.results74]
set_option maxRecDepth 20000 in
theorem catchE_panicking (p q : Addr) (x y : Value) (T : TypeId) (z : Value) (older : List PanicEntry) (w : World) (hp : w.cell? p = some x) (hpf : w.frozen? p = false) (hq : w.cell? q = some y) (hqf : w.frozen? q = false) (hpq : p ≠ q) :
    CallsD Tryz.prog 74 #[.pointer (some p), .pointer (some q)] (.panicking ({ v := .iface 185 (.agg #[.iface T z]), recovered := false } :: older)) w fun e u' w' =>
      e = .returned (.tuple #[]) ∧ u' = .panicking ({ v := .iface 185 (.agg #[.iface T z]), recovered := true } :: older) ∧ w' = ((w.alloc (.cells #[.iface T z] 185)).setCell p .nilIface).setCell q (.iface T z) := by
  refine callsD_of_wpS Tryz.func74 rfl fun c₀ cs hu => ?_
  apply wpS_seq
  apply wpS_region
  simp [wpOpsS, go_sem, recoverD, hu, Tryz.ntmps74, Exit.thenS]
  refine wpS_of_wp ?_
  show Code.wp _ _ _ ⟨#[.pointer (some p), .pointer (some q), .iface 185 (.agg #[.iface T z]), .iface 185 (.agg #[.iface T z]), undef, undef, undef, undef], []⟩ w
  have hpl := World.block_lt_of_cell? _ _ hp
  have hql := World.block_lt_of_cell? _ _ hq
  have bp := Below.heap_alloc w (.cells #[.iface T z] 185) p.block hpl
  have bq := Below.heap_alloc w (.cells #[.iface T z] 185) q.block hql
  have hp1 := (World.cell?_of_block (a := p) bp).trans hp
  have hpf1 := (World.frozen?_of_block (a := p) bp).trans hpf
  have hq1 := (World.cell?_of_block (a := q) bq).trans hq
  have hqf1 := (World.frozen?_of_block (a := q) bq).trans hqf
  have hq2 : ((w.alloc (.cells #[.iface T z] 185)).setCell p .nilIface).cell? q = some y := (World.cell?_setCell_other _ _ _ _ hpq).trans hq1
  have hqf2 : ((w.alloc (.cells #[.iface T z] 185)).setCell p .nilIface).frozen? q = false := (World.frozen?_setCell _ _ _ _).trans hqf1
  have HR : Hid _ := prefused_any T z w
  go_wp2_with (go_at_call 49; refine Calls.mono HR.out ?_; rintro e w' ⟨rfl, hww⟩; rw [hww]; clear hww w')
  simp [bodyPostS, results, Tryz.results74]
end Go.Proofs.YtleenphlgbklmabGreatDoor

namespace Go.Proofs.YtleenphlgbklmabGreatDoor
open Go.RowKit

theorem ptref_all (s : ByteArray) (kws : List ByteArray) (L : List Tk) (hE : PEnv s kws L) (hkw : kws = [{ data := #[105, 110, 116] }, { data := #[98, 111, 111, 108] }]) (n : Nat) : SPTyp s L n ∧ SPOne s L n := by
  have hki : { data := #[105, 110, 116] } ∈ kws := by rw [hkw]; simp
  have hkb : { data := #[98, 111, 111, 108] } ∈ kws := by rw [hkw]; simp
  induction n with
  | zero =>
    refine ⟨?_, ?_⟩
    · intro w rb mb k names vb t names' k' bad' h hv hok hne hM
      simp [arrowM] at hM
    · intro w rb mb k names vb t names' k' bad' h hv hok hne hM
      simp [oneM] at hM
  | succ n ih =>
    refine ⟨ptyp_step s kws L hE n ih.1 ih.2, ?_⟩
    intro w rb mb k names vb t names' k' bad' h hv hok hne hM
    simp only [oneM] at hM
    cases h0 : isM L { data := #[105, 110, 116] } k (-1)
    · rw [h0] at hM
      cases h1 : isM L { data := #[98, 111, 111, 108] } k (-1)
      · rw [h1] at hM
        cases h2 : isM L { data := #[110, 97, 109, 101] } k (-1)
        · cases h3 : isM L { data := #[91] } k (-1)
          · rw [h3] at hM
            cases h4 : isM L { data := #[40] } k (-1)
            · rw [h4] at hM
              simp only [Bool.false_eq_true, if_false, Option.some.injEq, Prod.mk.injEq] at hM
              obtain ⟨_, _, _, rfl⟩ := hM
              rw [(needB_false h2 (by omega)).1]
              exact pone_bad s kws L hE hki hkb w rb mb k names vb t names' k' h hv hok hne hkw h0 h1 h2 h3 h4
            · rw [h4] at hM
              simp only [Bool.false_eq_true, if_false, if_true] at hM
              obtain ⟨⟨x, n1, k1, b1⟩, q1, q2⟩ := Option.bind_eq_some_iff.1 hM
              exact pone_brk s kws L hE hki hkb w rb mb k names vb t names' k' bad' h hv hok hne hkw h0 h1 h2 h3 h4 (fun w1 hp1 hv1 => pbrk_any s kws L hE n ih.1 w1 rb mb k names vb x n1 k1 b1 t names' k' bad' hp1 hv1 hok hne h4 q1 q2)
          · rw [h3] at hM
            simp only [Bool.false_eq_true, if_false, if_true] at hM
            obtain ⟨⟨x, n1, k1, b1⟩, q1, q2⟩ := Option.bind_eq_some_iff.1 hM
            simp only [Option.some.injEq, Prod.mk.injEq] at q2
            obtain ⟨rfl, rfl, rfl, rfl⟩ := q2
            exact pone_list s kws L hE hki hkb w rb mb k names vb _ _ _ _ h hv hok hne hkw h0 h1 h2 h3 (fun w1 hp1 hv1 => plist_any s kws L hE n ih.1 w1 rb mb k names vb x n1 k1 b1 hp1 hv1 hok hne h3 q1)
        · have h3 : isM L { data := #[91] } k (-1) = false := by
            simp only [isM, Bool.and_eq_true] at h2
            simp only [isM]
            rw [(sameS_iff (tkAt L k).is { data := #[110, 97, 109, 101] }).1 h2.2]
            decide
          have h4 : isM L { data := #[40] } k (-1) = false := by
            simp only [isM, Bool.and_eq_true] at h2
            simp only [isM]
            rw [(sameS_iff (tkAt L k).is { data := #[110, 97, 109, 101] }).1 h2.2]
            decide
          rw [h3, h4] at hM
          simp only [Bool.false_eq_true, if_false, Option.some.injEq, Prod.mk.injEq] at hM
          obtain ⟨rfl, rfl, rfl, rfl⟩ := hM
          rw [(needB_true h2).1, (needB_true h2).2]
          exact pone_name s kws L hE hki hkb w rb mb k names vb h hv hok hne h0 h1 h2
      · rw [h1] at hM
        simp only [Bool.false_eq_true, if_false, if_true, Option.some.injEq, Prod.mk.injEq] at hM
        obtain ⟨rfl, rfl, rfl, rfl⟩ := hM
        exact pone_bool s kws L hE hki hkb w rb mb k names vb h hv hok hne h0 h1
    · rw [h0] at hM
      simp only [if_true, Option.some.injEq, Prod.mk.injEq] at hM
      obtain ⟨rfl, rfl, rfl, rfl⟩ := hM
      exact pone_int s kws L hE hki hkb w rb mb k names vb h hv hok hne h0
end Go.Proofs.YtleenphlgbklmabGreatDoor

namespace Go.Proofs.YtleenphlgbklmabGreatDoor

/-- the fault that stands in a state of the reader: one that was told, or the token that is none. -/
def bz (l : List Tk) (k : Nat) (bad : Int) : Int := if 0 ≤ bad then bad else if (tkAt l k).is = { data := #[110, 111, 110, 101] } then ((tkAt l k).loc : Int) else -1
section
variable {l : List Tk} {k : Nat} {bad : Int}
theorem bz_ge (h : 0 ≤ bad) : bz l k bad = bad := by unfold bz; rw [if_pos h]
theorem bz_none (h : bad < 0) (hn : (tkAt l k).is = { data := #[110, 111, 110, 101] }) : bz l k bad = (tkAt l k).loc := by unfold bz; rw [if_neg (by omega), if_pos hn]
theorem bz_neg (h : bz l k bad < 0) : bad < 0 ∧ (tkAt l k).is ≠ { data := #[110, 111, 110, 101] } := by
  unfold bz at h
  split at h
  · omega
  · split at h
    · omega
    · exact ⟨by omega, by assumption⟩
theorem bz_ok (h : bad < 0) (hn : (tkAt l k).is ≠ { data := #[110, 111, 110, 101] }) : bz l k bad = -1 := by unfold bz; rw [if_neg (by omega), if_neg hn]
theorem bz_self (h : 0 ≤ bz l k bad) : bz l k (bz l k bad) = bz l k bad := bz_ge h
theorem isM_bz {q : ByteArray} (h : 0 ≤ bz l k bad) (hq : q.data.toList ≠ ({ data := #[110, 111, 110, 101] } : ByteArray).data.toList) : isM l q k bad = false := by
  by_cases h1 : 0 ≤ bad
  · exact isM_geT h1
  · by_cases h2 : (tkAt l k).is = { data := #[110, 111, 110, 101] }
    · exact isM_none h2 hq
    · rw [bz_ok (by omega) h2] at h; omega
theorem need_bz {q : ByteArray} (h : 0 ≤ bz l k bad) (hq : q.data.toList ≠ ({ data := #[110, 111, 110, 101] } : ByteArray).data.toList) : takeK l q k bad = k ∧ needB l q k bad = bz l k bad := by
  have e := isM_bz h hq
  unfold takeK needB
  rw [e]
  refine ⟨rfl, ?_⟩
  by_cases h1 : 0 ≤ bad
  · rw [bz_ge h1, if_neg (by simp; omega)]
  · by_cases h2 : (tkAt l k).is = { data := #[110, 111, 110, 101] }
    · rw [bz_none (by omega) h2, if_pos (by simp; omega)]
    · rw [bz_ok (by omega) h2] at h; omega
theorem need_bz' {q : ByteArray} (h : 0 ≤ bz l k bad) (hq : q.data.toList ≠ ({ data := #[110, 111, 110, 101] } : ByteArray).data.toList) : bz l (takeK l q k bad) (needB l q k bad) = bz l k bad := by
  rw [(need_bz h hq).1, (need_bz h hq).2]; exact bz_self h
theorem dup_ge {names : List ByteArray} {s : ByteArray} {loc : Nat} (h : 0 ≤ bad) : dupB names s loc bad = bad := by
  unfold dupB
  rw [if_neg (by simp; omega)]
end

/-- a fault once told stays. -/
structure Stk (l : List Tk) (n : Nat) : Prop where
  ex : ∀ k bad x k' bad', expM l n k bad = some (x, k', bad') → 0 ≤ bz l k bad → bz l k' bad' = bz l k bad
  bo : ∀ names kids k bad ns' ks' k' bad', boundM l n names kids k bad = some (ns', ks', k', bad') → 0 ≤ bz l k bad → bz l k' bad' = bz l k bad
  an : ∀ names kids k bad ns' ks' k' bad', andM l n names kids k bad = some (ns', ks', k', bad') → 0 ≤ bz l k bad → bz l k' bad' = bz l k bad
  at' : ∀ k bad x k' bad', atomM l n k bad = some (x, k', bad') → 0 ≤ bz l k bad → bz l k' bad' = bz l k bad
  ap : ∀ x k bad x' k' bad', appM l n x k bad = some (x', k', bad') → 0 ≤ bz l k bad → bz l k' bad' = bz l k bad
theorem stk (l : List Tk) : ∀ n, Stk l n := by
  intro n
  induction n with
  | zero => exact ⟨fun _ _ _ _ _ h => by simp [expM] at h, fun _ _ _ _ _ _ _ _ h => by simp [boundM] at h, fun _ _ _ _ _ _ _ _ h => by simp [andM] at h, fun _ _ _ _ _ h => by simp [atomM] at h, fun _ _ _ _ _ _ h => by simp [appM] at h⟩
  | succ n ih =>
    refine ⟨?_, ?_, ?_, ?_, ?_⟩
    · intro k bad x k' bad' h hz
      simp only [expM, isM_bz hz (show ({ data := #[102, 117, 110] } : ByteArray).data.toList ≠ ({ data := #[110, 111, 110, 101] } : ByteArray).data.toList by decide), isM_bz hz (show ({ data := #[105, 102] } : ByteArray).data.toList ≠ ({ data := #[110, 111, 110, 101] } : ByteArray).data.toList by decide), isM_bz hz (show ({ data := #[108, 101, 116] } : ByteArray).data.toList ≠ ({ data := #[110, 111, 110, 101] } : ByteArray).data.toList by decide), Bool.false_eq_true, if_false] at h
      split at h
      · simp only [Option.some.injEq, Prod.mk.injEq] at h
        obtain ⟨_, rfl, rfl⟩ := h
        rfl
      · obtain ⟨⟨x1, k1, b1⟩, h1, h2⟩ := Option.bind_eq_some_iff.1 h
        have e := ih.at' _ _ _ _ _ h1 hz
        exact (ih.ap _ _ _ _ _ _ h2 (by simp only; omega)).trans e
    · intro names kids k bad ns' ks' k' bad' h hz
      simp only [boundM] at h
      obtain ⟨⟨x1, k1, b1⟩, h1, h2⟩ := Option.bind_eq_some_iff.1 h
      simp only [Option.some.injEq, Prod.mk.injEq] at h2
      obtain ⟨_, _, rfl, rfl⟩ := h2
      have e1 := need_bz hz (show ({ data := #[110, 97, 109, 101] } : ByteArray).data.toList ≠ ({ data := #[110, 111, 110, 101] } : ByteArray).data.toList by decide)
      rw [e1.1, e1.2, dup_ge hz] at h1
      have hz2 : 0 ≤ bz l k (bz l k bad) := by rw [bz_self hz]; exact hz
      have e2 := need_bz hz2 (show ({ data := #[61] } : ByteArray).data.toList ≠ ({ data := #[110, 111, 110, 101] } : ByteArray).data.toList by decide)
      rw [e2.1, e2.2, bz_self hz] at h1
      rw [ih.ex _ _ _ _ _ h1 hz2, bz_self hz]
    · intro names kids k bad ns' ks' k' bad' h hz
      simp only [andM, isM_bz hz (show ({ data := #[97, 110, 100] } : ByteArray).data.toList ≠ ({ data := #[110, 111, 110, 101] } : ByteArray).data.toList by decide), Bool.false_eq_true, if_false, Option.some.injEq, Prod.mk.injEq] at h
      obtain ⟨_, _, rfl, rfl⟩ := h
      rfl
    · intro k bad x k' bad' h hz
      simp only [atomM, isM_bz hz (show ({ data := #[110, 97, 109, 101] } : ByteArray).data.toList ≠ ({ data := #[110, 111, 110, 101] } : ByteArray).data.toList by decide), isM_bz hz (show ({ data := #[110, 117, 109] } : ByteArray).data.toList ≠ ({ data := #[110, 111, 110, 101] } : ByteArray).data.toList by decide), Bool.or_false, Bool.false_eq_true, if_false] at h
      obtain ⟨⟨x1, k1, b1⟩, h1, h2⟩ := Option.bind_eq_some_iff.1 h
      have e1 := need_bz hz (show ({ data := #[40] } : ByteArray).data.toList ≠ ({ data := #[110, 111, 110, 101] } : ByteArray).data.toList by decide)
      rw [e1.1, e1.2] at h1
      have hz2 : 0 ≤ bz l k (bz l k bad) := by rw [bz_self hz]; exact hz
      have e2 := ih.ex _ _ _ _ _ h1 hz2
      rw [bz_self hz] at e2
      have hz3 : 0 ≤ bz l k1 b1 := by omega
      simp only [isM_bz hz3 (show ({ data := #[44] } : ByteArray).data.toList ≠ ({ data := #[110, 111, 110, 101] } : ByteArray).data.toList by decide), Bool.false_eq_true, if_false, Option.some.injEq, Prod.mk.injEq] at h2
      obtain ⟨_, rfl, rfl⟩ := h2
      rw [need_bz' hz3 (by decide), e2]
    · intro x k bad x' k' bad' h hz
      simp only [appM, isM_bz hz (show ({ data := #[110, 97, 109, 101] } : ByteArray).data.toList ≠ ({ data := #[110, 111, 110, 101] } : ByteArray).data.toList by decide), isM_bz hz (show ({ data := #[110, 117, 109] } : ByteArray).data.toList ≠ ({ data := #[110, 111, 110, 101] } : ByteArray).data.toList by decide), isM_bz hz (show ({ data := #[40] } : ByteArray).data.toList ≠ ({ data := #[110, 111, 110, 101] } : ByteArray).data.toList by decide), Bool.or_false, Bool.false_eq_true, if_false, Option.some.injEq, Prod.mk.injEq] at h
      obtain ⟨_, rfl, rfl⟩ := h
      rfl
end Go.Proofs.YtleenphlgbklmabGreatDoor

namespace Go.Proofs.YtleenphlgbklmabGreatDoor
open Go.RowKit

/-- thrown at a place; but for the reader all is as it was. -/
def ThrX (w : World) (rb : Nat) (loc : Int) (e : Ending) (w' : World) : Prop := ∃ b : Nat, e = thrown (.iface 83 (.pointer (some ⟨b, 0, none⟩))) ∧ (∃ n : Nat, loc = n ∧ w'.heap[b]? = some (.cells #[.int .i64 n] 94 (0, 0))) ∧ w.heap.size ≤ b ∧ Kq (· = rb) w w'
/-- behind a step of the reader of expressions: an answer, and where it stands; or thrown, where the fault is. -/
def PRet (Q : World → Value → Prop) (w : World) (rb : Nat) (s : ByteArray) (L : List Tk) (k' : Nat) (bad' : Int) (e : Ending) (w' : World) : Prop :=
  (bz L k' bad' < 0 → bad' = -1 ∧ ∃ v, e = .returned v ∧ Q w' v ∧ PAt w' rb s L k' ∧ Kq (· = rb) w w') ∧ (0 ≤ bz L k' bad' → ThrX w rb (bz L k' bad') e w')
theorem ThrX.before {w0 w w' : World} {rb : Nat} {z : Int} {e : Ending} (h : ThrX w rb z e w') (hk : Kq (· = rb) w0 w) : ThrX w0 rb z e w' := by
  obtain ⟨b, h1, h2, h3, h4⟩ := h
  exact ⟨b, h1, h2, Nat.le_trans hk.size h3, hk.trans h4⟩
theorem ThrX.of {w w' : World} {rb loc : Nat} {e : Ending} (h : ThrS w loc e w') : ThrX w rb loc e w' := by
  obtain ⟨b, h1, h2, h3, h4⟩ := h
  exact ⟨b, h1, ⟨loc, rfl, h2⟩, h3, Kq.of_kept h4⟩
theorem PRet.thr {Q : World → Value → Prop} {w w' : World} {rb : Nat} {s : ByteArray} {L : List Tk} {k' : Nat} {bad' : Int} {e : Ending} {z : Int} (h : ThrX w rb z e w') (hz : bz L k' bad' = z) (h0 : 0 ≤ z) : PRet Q w rb s L k' bad' e w' :=
  ⟨fun q => by omega, fun _ => by rw [hz]; exact h⟩
theorem PRet.ret {Q : World → Value → Prop} {w w' : World} {rb : Nat} {s : ByteArray} {L : List Tk} {k' : Nat} {v : Value} (hq : Q w' v) (hP : PAt w' rb s L k') (hK : Kq (· = rb) w w') : PRet Q w rb s L k' (-1) (.returned v) w' :=
  ⟨fun _ => ⟨rfl, v, rfl, hq, hP, hK⟩, fun q => by rw [bz_ok (by omega) hP.nn] at q; omega⟩
theorem PAt.lt' {w : World} {rb : Nat} {s : ByteArray} {L : List Tk} {k : Nat} (h : PAt w rb s L k) : rb < w.heap.size := by
  obtain ⟨kd, e, _⟩ := h.ex
  exact lt_of_block e
theorem need_true {L : List Tk} {q : ByteArray} {k : Nat} (h : isM L q k (-1) = true) : takeK L q k (-1) = k + 1 ∧ needB L q k (-1) = -1 := by
  unfold takeK needB
  rw [h]
  exact ⟨rfl, rfl⟩
theorem need_false {L : List Tk} {q : ByteArray} {k : Nat} (h : isM L q k (-1) = false) : takeK L q k (-1) = k ∧ needB L q k (-1) = (tkAt L k).loc := by
  unfold takeK needB
  rw [h]
  exact ⟨rfl, rfl⟩

section
variable {s : ByteArray} {kws : List ByteArray} {L : List Tk} (hE : PEnv s kws L) {w : World} {rb k : Nat}
include hE
theorem px_adv (h : PAt w rb s L k) (h1 : k + 1 < L.length) : Calls Tryz.prog 78 #[.pointer (some ⟨rb, 0, none⟩)] w fun e w' => PRet (fun _ v => v = .tuple #[]) w rb s L (k + 1) (-1) e w' := by
  by_cases hn : (tkAt L (k + 1)).is = { data := #[110, 111, 110, 101] }
  · refine (at_advN hE h h1 hn).mono ?_
    intro e w' ht
    exact PRet.thr (ThrX.of ht) (bz_none (by omega) hn) (by omega)
  · refine (at_adv hE h h1 hn).mono ?_
    rintro e w' ⟨rfl, hK, hP⟩
    exact PRet.ret rfl hP (Kq.of_kp hK (fun _ e => e))
theorem px_expect (h : PAt w rb s L k) (q : ByteArray) (hq : q ∈ kws ∨ isSgn q) (h1 : q.data.toList ≠ ({ data := #[101, 110, 100] } : ByteArray).data.toList) (h2 : q.data.toList ≠ ({ data := #[110, 111, 110, 101] } : ByteArray).data.toList) : Calls Tryz.prog 148 #[.pointer (some ⟨rb, 0, none⟩), .string q] w fun e w' => PRet (fun _ v => v = .tuple #[]) w rb s L (takeK L q k (-1)) (needB L q k (-1)) e w' := by
  cases hM : isM L q k (-1)
  · rw [(need_false hM).1, (need_false hM).2]
    refine (at_expB hE h q hq hM).mono ?_
    intro e w' ht
    exact PRet.thr (ThrX.of ht) (bz_ge (by omega)) (by omega)
  · rw [(need_true hM).1, (need_true hM).2]
    have hk := isM_lt hE.good h.lt hM h1 h2
    by_cases hn : (tkAt L (k + 1)).is = { data := #[110, 111, 110, 101] }
    · refine (at_expN hE h q hq hk hM hn).mono ?_
      intro e w' ht
      exact PRet.thr (ThrX.of ht) (bz_none (by omega) hn) (by omega)
    · refine (at_exp hE h q hq hk hM hn).mono ?_
      rintro e w' ⟨rfl, hK, hP⟩
      exact PRet.ret rfl hP (Kq.of_kp hK (fun _ e => e))
end
end Go.Proofs.YtleenphlgbklmabGreatDoor
