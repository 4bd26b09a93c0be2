import Derived.Test.YtleenphlgbklmabGreatDoorZTxE
import Derived.Test.YtleenphlgbklmabGreatDoorZTxW
import Derived.Test.YtleenphlgbklmabGreatDoorZPEq
set_option linter.unusedVariables false
set_option linter.unusedSimpArgs false
namespace Go.Proofs.YtleenphlgbklmabGreatDoor
open Go.RowKit

set_option maxRecDepth 20000 in
set_option maxHeartbeats 1000000 in
theorem first_pair (E : WE) (hE : E.Ok) (i c : Nat) (x y : TR) (a d : Ty) (hi : E.σ[i]? = some ⟨.pr x y, none⟩) (hc : E.ad[i]? = some c) (hpre : ∀ l, varsM a l <+: varsM d (varsM a l)) (ih : STyp E x a) (ih2 : STyp E y d) : SFst E (.nd .pr i) (.mk { data := #[112, 97, 105, 114] } 0 [a, d]) := by
  intro w v l sp es hv h hp hn hl
  have hsz : sz (.mk { data := #[112, 97, 105, 114] } 0 [a, d]) = sz a + sz d + 1 := by simp [sz, szs]
  obtain ⟨c', hc', rfl⟩ := hv
  rw [show Kd.pr.tp = 153 from rfl]
  rw [hc] at hc'
  simp at hc'
  subst hc'
  rw [varsM_pair] at hp
  rw [hsz] at hn hl ⊢
  rw [shT_pair]
  have s1 : ({ data := #[40] } : ByteArray).size = 1 := rfl
  have s2 : ({ data := #[41] } : ByteArray).size = 1 := rfl
  have s3 : ({ data := #[44, 32] } : ByteArray).size = 2 := rfl
  have H1 : Hid _ := tok_step E hE w l sp es h { data := #[40] } (by decide) (by omega) (by omega)
  have HX : Hid (∀ w1 l sp es, E.TX w1 l sp es → ∃ p q, RV E.ad x p ∧ RV E.ad y q ∧ w1.cell? ⟨c, 1, none⟩ = some p ∧ w1.cell? ⟨c, 2, none⟩ = some q) := fun w1 l sp es hT => hT.st.pr hi hc
  have HI : Hid (∀ (w1 : World) (p : Value), RV E.ad x p → E.TX w1 l (sp ++ [.tk { data := #[40] }]) es → Calls Tryz.prog 83 #[.pointer (some ⟨E.b, 0, none⟩), p] w1 fun e w' => e = .returned (.tuple #[]) ∧ WPost E w1 w' a l (sp ++ [.tk { data := #[40] }]) es (shT E.F a) (1000 * sz a) (sz a)) := fun w1 p hp1 hT => ih w1 p l _ es hp1 hT ((hpre l).trans hp) (by rw [decS_tk_size]; omega) (by simp; omega)
  have HC : Hid (∀ (w2 : World) (l2 : List Nat) (sp2 : List Sp) (es2 : List (TR × Nat × Nat)), E.TX w2 l2 sp2 es2 → (decS sp2).size ≤ (decS (sp ++ [.tk { data := #[40] }])).size + 1000 * sz a → sp2.length ≤ (sp ++ [Sp.tk { data := #[40] }]).length + 1000 * sz a → Calls Tryz.prog 157 #[.pointer (some ⟨E.b, 0, none⟩), .string { data := #[44, 32] }] w2 fun e w' => e = .returned (.tuple #[]) ∧ E.TX w' l2 (sp2 ++ [.tk { data := #[44, 32] }]) es2 ∧ Kt E.ad (SN E.B E.nm) w2 w') := fun w2 l2 sp2 es2 hT q1 q2 => tok_step E hE w2 l2 sp2 es2 hT { data := #[44, 32] } (by decide) (by rw [decS_tk_size] at q1; omega) (by simp at q2; omega)
  have HI2 : Hid (∀ (w3 : World) (q : Value) (sp2 : List Sp) (es2 : List (TR × Nat × Nat)), RV E.ad y q → E.TX w3 (varsM a l) (sp2 ++ [.tk { data := #[44, 32] }]) es2 → (decS sp2).size ≤ (decS (sp ++ [.tk { data := #[40] }])).size + 1000 * sz a → sp2.length ≤ (sp ++ [Sp.tk { data := #[40] }]).length + 1000 * sz a → Calls Tryz.prog 83 #[.pointer (some ⟨E.b, 0, none⟩), q] w3 fun e w' => e = .returned (.tuple #[]) ∧ WPost E w3 w' d (varsM a l) (sp2 ++ [.tk { data := #[44, 32] }]) es2 (shT E.F d) (1000 * sz d) (sz d)) := fun w3 q sp2 es2 hq hT q1 q2 => ih2 w3 q _ _ es2 hq hT hp (by rw [decS_tk_size] at q1 ⊢; omega) (by simp at q2 ⊢; omega)
  have HC2 : Hid (∀ (w4 : World) (l4 : List Nat) (sp2 sp4 : List Sp) (es4 : List (TR × Nat × Nat)), E.TX w4 l4 sp4 es4 → (decS sp2).size ≤ (decS (sp ++ [.tk { data := #[40] }])).size + 1000 * sz a → sp2.length ≤ (sp ++ [Sp.tk { data := #[40] }]).length + 1000 * sz a → (decS sp4).size ≤ (decS (sp2 ++ [.tk { data := #[44, 32] }])).size + 1000 * sz d → sp4.length ≤ (sp2 ++ [Sp.tk { data := #[44, 32] }]).length + 1000 * sz d → Calls Tryz.prog 157 #[.pointer (some ⟨E.b, 0, none⟩), .string { data := #[41] }] w4 fun e w' => e = .returned (.tuple #[]) ∧ E.TX w' l4 (sp4 ++ [.tk { data := #[41] }]) es4 ∧ Kt E.ad (SN E.B E.nm) w4 w') := fun w4 l4 sp2 sp4 es4 hT q1 q2 q3 q4 => tok_step E hE w4 l4 sp4 es4 hT { data := #[41] } (by decide) (by rw [decS_tk_size] at q1 q3; omega) (by simp at q2 q4; omega)
  have t1 := Tryz.taPB (.pointer (some ⟨c, 0, none⟩)) w
  have t2 := Tryz.taPV (.pointer (some ⟨c, 0, none⟩)) w
  have t3 := Tryz.taPL (.pointer (some ⟨c, 0, none⟩)) w
  have t4 := Tryz.taPP (.pointer (some ⟨c, 0, none⟩)) w
  clear h ih ih2 hi hc hp hpre
  go_enter Tryz.func126, Tryz.ntmps126
  go_wp2_with fail
  refine Calls.mono H1.out ?_
  rintro e w1 ⟨rfl, hT1, hk1⟩
  obtain ⟨p, q, hp, hq, hx1, _⟩ := HX.out w1 _ _ _ hT1
  have HI1 : Hid _ := HI.out w1 p hp hT1
  clear H1 HI hT1
  obtain ⟨T, u, rfl⟩ := hp.iface
  go_wp2_with fail
  refine Calls.mono HI1.out ?_
  rintro e w2 ⟨rfl, sp2, es2, hT2, hd2, q1, q2, hes, hk2⟩
  have HC1 : Hid _ := HC.out w2 _ sp2 es2 hT2 q1 q2
  have HD : Hid _ := hd2
  have HES : Hid _ := hes
  have Q1 : Hid _ := q1
  have Q2 : Hid _ := q2
  clear HC HI1 hT2 hd2 hes q1 q2 hx1
  go_wp2_with fail
  refine Calls.mono HC1.out ?_
  rintro e w3 ⟨rfl, hT3, hk3⟩
  obtain ⟨p', q', _, hq', _, hx3⟩ := HX.out w3 _ _ _ hT3
  have HI3 : Hid _ := HI2.out w3 q' sp2 es2 hq' hT3 Q1.out Q2.out
  clear HC1 HX HI2 hT3 hq
  obtain ⟨T2, u2, rfl⟩ := hq'.iface
  go_wp2_with fail
  refine Calls.mono HI3.out ?_
  rintro e w4 ⟨rfl, sp4, es4, hT4, hd4, q3, q4, hes4, hk4⟩
  have HC4 : Hid _ := HC2.out w4 _ sp2 sp4 es4 hT4 Q1.out Q2.out q3 q4
  have HD4 : Hid _ := hd4
  have HES4 : Hid _ := hes4
  have Q3 : Hid _ := q3
  have Q4 : Hid _ := q4
  clear HC2 HI3 hT4 hd4 hes4 q3 q4
  go_wp2_with fail
  refine Calls.mono HC4.out ?_
  rintro e w5 ⟨rfl, hT5, hk5⟩
  clear HC4
  go_wp2
  go_end0
  have q1 := Q1.out
  have q2 := Q2.out
  have q3 := Q3.out
  have q4 := Q4.out
  rw [decS_tk_size] at q1 q3
  simp at q2 q4
  refine ⟨rfl, sp4 ++ [.tk { data := #[41] }], es4, ?_, ?_, ?_, by simp; omega, ?_, (((hk1.trans hk2).trans hk3).trans hk4).trans hk5⟩
  · rw [varsM_pair]; exact hT5
  · rw [decS_tk, HD4.out, decS_tk, HD.out, decS_tk]; simp [ByteArray.append_assoc]
  · rw [decS_tk_size]; omega
  · intro e he
    rcases HES4.out e he with q | ⟨T, h1, h2⟩
    · rcases HES.out e q with q | ⟨T, h1, h2⟩
      · exact .inl q
      · exact .inr ⟨T, h1, by omega⟩
    · exact .inr ⟨T, h1, by omega⟩
end Go.Proofs.YtleenphlgbklmabGreatDoor

namespace Go.Proofs.YtleenphlgbklmabGreatDoor
open Go.RowKit

set_option maxRecDepth 20000 in
set_option maxHeartbeats 1000000 in
theorem left_no (E : WE) (hE : E.Ok) (r r0 : TR) (t : Ty) (hr : Rp E.σ r r0) (hta : ∀ v, RV E.ad r0 v → ∀ w, (Instr.typeAssert v 77 157 true).run Tryz.prog w = .ok (.tuple #[.pointer none, .bool false]) w) (hk : (t.kind.data.toList == ({ data := #[102, 117, 110] } : ByteArray).data.toList) = false) (ih : STyp E r t) : SLef E r t := by
  intro w v l sp es hv h hp hn hl
  rw [hk]
  have HK : Hid _ := known_se hr w v h.st hv
  have HI : Hid (∀ w1, SX w1 E.ad E.σ → Kt E.ad (fun _ => False) w w1 → Calls Tryz.prog 83 #[.pointer (some ⟨E.b, 0, none⟩), v] w1 fun e w' => e = .returned (.tuple #[]) ∧ WPost E w1 w' t l sp es (shT E.F t) (1000 * sz t) (sz t)) := fun w1 hs hk => ih w1 v l sp es hv (h.kn hE.okk hk hs) hp (by omega) (by omega)
  have HTA : Hid _ := hta
  clear h ih hk hta hr
  obtain ⟨T, u, rfl⟩ := hv.iface
  go_enter Tryz.func158, Tryz.ntmps158
  go_wp2_with fail
  refine Calls.mono HK.out ?_
  rintro e w1 ⟨v0, rfl, hv0, hs1, hk1⟩
  obtain ⟨T0, u0, rfl⟩ := hv0.iface
  have t1 := HTA.out _ hv0 w1
  have HI1 : Hid _ := HI.out w1 hs1 hk1
  clear HK HI HTA hs1
  go_wp2_with fail
  refine Calls.mono HI1.out ?_
  rintro e w2 ⟨rfl, sp2, es2, hT2, hd2, q1, q2, hes, hk2⟩
  have HD : Hid _ := hd2
  have HES : Hid _ := hes
  clear HI1 hd2 hes
  go_wp2
  exact bodyPost_ret (results_none Tryz.results158 _ _ _) rfl ⟨rfl, sp2, es2, hT2, HD.out, by omega, by omega, HES.out, (hk1.mono (fun _ _ z => z.elim)).trans hk2⟩
set_option maxRecDepth 20000 in
set_option maxHeartbeats 1000000 in
theorem left_yes (E : WE) (hE : E.Ok) (r : TR) (j : Nat) (t : Ty) (hr : Rp E.σ r (.nd .ar j)) (hk : (t.kind.data.toList == ({ data := #[102, 117, 110] } : ByteArray).data.toList) = true) (ih : STyp E r t) : SLef E r t := by
  intro w v l sp es hv h hp hn hl
  rw [hk]
  have s1 : ({ data := #[40] } : ByteArray).size = 1 := rfl
  have s2 : ({ data := #[41] } : ByteArray).size = 1 := rfl
  have HK : Hid _ := known_se hr w v h.st hv
  have H1 : Hid (∀ w1, SX w1 E.ad E.σ → Kt E.ad (fun _ => False) w w1 → Calls Tryz.prog 157 #[.pointer (some ⟨E.b, 0, none⟩), .string { data := #[40] }] w1 fun e w' => e = .returned (.tuple #[]) ∧ E.TX w' l (sp ++ [.tk { data := #[40] }]) es ∧ Kt E.ad (SN E.B E.nm) w1 w') := fun w1 hs hk => tok_step E hE w1 l sp es (h.kn hE.okk hk hs) { data := #[40] } (by decide) (by omega) (by omega)
  have HI : Hid (∀ (w1 : World), E.TX w1 l (sp ++ [.tk { data := #[40] }]) es → Calls Tryz.prog 83 #[.pointer (some ⟨E.b, 0, none⟩), v] w1 fun e w' => e = .returned (.tuple #[]) ∧ WPost E w1 w' t l (sp ++ [.tk { data := #[40] }]) es (shT E.F t) (1000 * sz t) (sz t)) := fun w1 hT => ih w1 v l _ es hv hT hp (by rw [decS_tk_size]; omega) (by simp; omega)
  have HC : Hid (∀ (w2 : World) (l2 : List Nat) (sp2 : List Sp) (es2 : List (TR × Nat × Nat)), E.TX w2 l2 sp2 es2 → (decS sp2).size ≤ (decS (sp ++ [.tk { data := #[40] }])).size + 1000 * sz t → sp2.length ≤ (sp ++ [Sp.tk { data := #[40] }]).length + 1000 * sz t → Calls Tryz.prog 157 #[.pointer (some ⟨E.b, 0, none⟩), .string { data := #[41] }] w2 fun e w' => e = .returned (.tuple #[]) ∧ E.TX w' l2 (sp2 ++ [.tk { data := #[41] }]) es2 ∧ Kt E.ad (SN E.B E.nm) w2 w') := fun w2 l2 sp2 es2 hT q1 q2 => tok_step E hE w2 l2 sp2 es2 hT { data := #[41] } (by decide) (by rw [decS_tk_size] at q1; omega) (by simp at q2; omega)
  clear h ih hk hr
  obtain ⟨T, u, rfl⟩ := hv.iface
  go_enter Tryz.func158, Tryz.ntmps158
  go_wp2_with fail
  refine Calls.mono HK.out ?_
  rintro e w1 ⟨v0, rfl, hv0, hs1, hk1⟩
  obtain ⟨c, _, rfl⟩ := hv0
  rw [show Kd.ar.tp = 157 from rfl]
  have t1 := Tryz.taAA (.pointer (some ⟨c, 0, none⟩)) w1
  have HI1 : Hid _ := H1.out w1 hs1 hk1
  clear HK H1 hs1
  go_wp2_with fail
  refine Calls.mono HI1.out ?_
  rintro e w2 ⟨rfl, hT2, hk2⟩
  have HI2 : Hid _ := HI.out w2 hT2
  clear HI HI1 hT2
  go_wp2_with fail
  refine Calls.mono HI2.out ?_
  rintro e w3 ⟨rfl, sp2, es2, hT3, hd2, q1, q2, hes, hk3⟩
  have HC2 : Hid _ := HC.out w3 _ sp2 es2 hT3 q1 q2
  have HD : Hid _ := hd2
  have HES : Hid _ := hes
  have Q1 : Hid _ := q1
  have Q2 : Hid _ := q2
  clear HC HI2 hT3 hd2 hes q1 q2
  go_wp2_with fail
  refine Calls.mono HC2.out ?_
  rintro e w4 ⟨rfl, hT4, hk4⟩
  clear HC2
  go_wp2
  go_end0
  have q1 := Q1.out
  have q2 := Q2.out
  rw [decS_tk_size] at q1
  simp at q2
  refine ⟨rfl, sp2 ++ [.tk { data := #[41] }], es2, hT4, ?_, ?_, by simp; omega, HES.out, (((hk1.mono (fun _ _ z => z.elim)).trans hk2).trans hk3).trans hk4⟩
  · rw [decS_tk, HD.out, decS_tk]; simp [brkT, ByteArray.append_assoc]
  · rw [decS_tk_size]; omega
set_option maxRecDepth 20000 in
set_option maxHeartbeats 1000000 in
theorem first_fn (E : WE) (hE : E.Ok) (i c : Nat) (x y : TR) (a d : Ty) (hi : E.σ[i]? = some ⟨.ar x y, none⟩) (hc : E.ad[i]? = some c) (hpre : ∀ l, varsM a l <+: varsM d (varsM a l)) (ih : SLef E x a) (ih2 : STyp E y d) : SFst E (.nd .ar i) (.mk { data := #[102, 117, 110] } 0 [a, d]) := by
  intro w v l sp es hv h hp hn hl
  have hsz : sz (.mk { data := #[102, 117, 110] } 0 [a, d]) = sz a + sz d + 1 := by simp [sz, szs]
  obtain ⟨c', hc', rfl⟩ := hv
  rw [show Kd.ar.tp = 157 from rfl]
  rw [hc] at hc'
  simp at hc'
  subst hc'
  rw [varsM_fn] at hp
  rw [hsz] at hn hl ⊢
  rw [shT_fn]
  have s3 : ({ data := #[32, 45, 62, 32] } : ByteArray).size = 4 := rfl
  have HX : Hid (∀ w1 l sp es, E.TX w1 l sp es → ∃ p q, RV E.ad x p ∧ RV E.ad y q ∧ w1.cell? ⟨c, 1, none⟩ = some p ∧ w1.cell? ⟨c, 2, none⟩ = some q) := fun w1 l sp es hT => hT.st.ar hi hc
  obtain ⟨p, q, hp1, hq1, hx1, _⟩ := HX.out w _ _ _ h
  have HI : Hid _ := ih w p l sp es hp1 h ((hpre l).trans hp) (by omega) (by omega)
  obtain ⟨T, u, rfl⟩ := hp1.iface
  generalize hg : brkT (a.kind.data.toList == ({ data := #[102, 117, 110] } : ByteArray).data.toList) (shT E.F a) = left at *
  have HC : Hid (∀ (w2 : World) (l2 : List Nat) (sp2 : List Sp) (es2 : List (TR × Nat × Nat)), E.TX w2 l2 sp2 es2 → (decS sp2).size ≤ (decS sp).size + (1000 * sz a + 2) → sp2.length ≤ sp.length + (1000 * sz a + 2) → Calls Tryz.prog 157 #[.pointer (some ⟨E.b, 0, none⟩), .string { data := #[32, 45, 62, 32] }] w2 fun e w' => e = .returned (.tuple #[]) ∧ E.TX w' l2 (sp2 ++ [.tk { data := #[32, 45, 62, 32] }]) es2 ∧ Kt E.ad (SN E.B E.nm) w2 w') := fun w2 l2 sp2 es2 hT q1 q2 => tok_step E hE w2 l2 sp2 es2 hT { data := #[32, 45, 62, 32] } (by decide) (by omega) (by omega)
  have HI2 : Hid (∀ (w3 : World) (q : Value) (sp2 : List Sp) (es2 : List (TR × Nat × Nat)), RV E.ad y q → E.TX w3 (varsM a l) (sp2 ++ [.tk { data := #[32, 45, 62, 32] }]) es2 → (decS sp2).size ≤ (decS sp).size + (1000 * sz a + 2) → sp2.length ≤ sp.length + (1000 * sz a + 2) → Calls Tryz.prog 83 #[.pointer (some ⟨E.b, 0, none⟩), q] w3 fun e w' => e = .returned (.tuple #[]) ∧ WPost E w3 w' d (varsM a l) (sp2 ++ [.tk { data := #[32, 45, 62, 32] }]) es2 (shT E.F d) (1000 * sz d) (sz d)) := fun w3 q sp2 es2 hq hT q1 q2 => ih2 w3 q _ _ es2 hq hT hp (by rw [decS_tk_size]; omega) (by simp; omega)
  have t1 := Tryz.taAB (.pointer (some ⟨c, 0, none⟩)) w
  have t2 := Tryz.taAV (.pointer (some ⟨c, 0, none⟩)) w
  have t3 := Tryz.taAL (.pointer (some ⟨c, 0, none⟩)) w
  have t4 := Tryz.taAP (.pointer (some ⟨c, 0, none⟩)) w
  have t5 := Tryz.taAA (.pointer (some ⟨c, 0, none⟩)) w
  clear h ih ih2 hi hc hp hpre hq1
  go_enter Tryz.func126, Tryz.ntmps126
  go_wp2_with fail
  refine Calls.mono HI.out ?_
  rintro e w2 ⟨rfl, sp2, es2, hT2, hd2, q1, q2, hes, hk2⟩
  have HC1 : Hid _ := HC.out w2 _ sp2 es2 hT2 q1 q2
  have HD : Hid _ := hd2
  have HES : Hid _ := hes
  have Q1 : Hid _ := q1
  have Q2 : Hid _ := q2
  clear HC HI hT2 hd2 hes q1 q2 hx1
  go_wp2_with fail
  refine Calls.mono HC1.out ?_
  rintro e w3 ⟨rfl, hT3, hk3⟩
  obtain ⟨p', q', _, hq', _, hx3⟩ := HX.out w3 _ _ _ hT3
  have HI3 : Hid _ := HI2.out w3 q' sp2 es2 hq' hT3 Q1.out Q2.out
  clear HC1 HX HI2 hT3
  obtain ⟨T2, u2, rfl⟩ := hq'.iface
  go_wp2_with fail
  refine Calls.mono HI3.out ?_
  rintro e w4 ⟨rfl, sp4, es4, hT4, hd4, q3, q4, hes4, hk4⟩
  have HD4 : Hid _ := hd4
  have HES4 : Hid _ := hes4
  have Q3 : Hid _ := q3
  have Q4 : Hid _ := q4
  clear HI3 hd4 hes4 q3 q4
  go_wp2
  go_end0
  have q1 := Q1.out
  have q2 := Q2.out
  have q3 := Q3.out
  have q4 := Q4.out
  rw [decS_tk_size] at q3
  simp at q4
  refine ⟨rfl, sp4, es4, ?_, ?_, by omega, by omega, ?_, (hk2.trans hk3).trans hk4⟩
  · rw [varsM_fn]; exact hT4
  · rw [HD4.out, decS_tk, HD.out]; simp [ByteArray.append_assoc]
  · intro e he
    rcases HES4.out e he with q | ⟨T, h1, h2⟩
    · rcases HES.out e q with q | ⟨T, h1, h2⟩
      · exact .inl q
      · exact .inr ⟨T, h1, by omega⟩
    · exact .inr ⟨T, h1, by omega⟩
/-- the writer writes every type. -/
theorem typ_all (E : WE) (hE : E.Ok) (hlen : E.ad.length = E.σ.length) (hvar : ∀ (i : Nat) (nm : ByteArray) (g : Bool), E.σ[i]? = some ⟨.vr nm g, none⟩ → SFst E (.nd .vr i) (.mk { data := #[] } i [])) {r : TR} {t : Ty} (h : Dn E.σ r t) : STyp E r t ∧ SLef E r t := by
  have gad : ∀ (i : Nat) (nd : Nd), E.σ[i]? = some nd → ∃ c, E.ad[i]? = some c := fun i nd hi => ⟨E.ad[i]'(by have := (List.getElem?_eq_some_iff.1 hi).1; omega), by simp⟩
  induction h with
  | int r hr =>
    have := typ_of E hE hr (.int _ hr.root_of) (first_base E hE { data := #[105, 110, 116] } (.inl rfl) .int (fun v hv => hv))
    exact ⟨this, left_no E hE r _ _ hr (fun v hv w => by rw [show v = _ from hv]; exact Tryz.taBA _ w) (by decide) this⟩
  | bool r hr =>
    have := typ_of E hE hr (.bool _ hr.root_of) (first_base E hE { data := #[98, 111, 111, 108] } (.inr rfl) .bool (fun v hv => hv))
    exact ⟨this, left_no E hE r _ _ hr (fun v hv w => by rw [show v = _ from hv]; exact Tryz.taBA _ w) (by decide) this⟩
  | var r i hr =>
    have hv : ∃ nm g, E.σ[i]? = some ⟨.vr nm g, none⟩ := by
      obtain ⟨nk, h1, h2⟩ := hr.rt
      cases nk with
      | vr nm g => exact ⟨nm, g, h2⟩
      | ls _ => cases h1
      | pr _ _ => cases h1
      | ar _ _ => cases h1
    obtain ⟨nm, g, hv⟩ := hv
    have := typ_of E hE hr (.var _ i hr.root_of) (hvar i nm g hv)
    exact ⟨this, left_no E hE r _ _ hr (fun v hv w => by obtain ⟨c, _, rfl⟩ := hv; exact Tryz.taVA _ w) (by simp [Ty.kind]) this⟩
  | list r i x a hr hi ha ih =>
    obtain ⟨c, hc⟩ := gad i _ hi
    have := typ_of E hE hr (.list _ i x a hr.root_of hi ha) (first_list E hE i c x a hi hc ih.1)
    exact ⟨this, left_no E hE r _ _ hr (fun v hv w => by obtain ⟨c, _, rfl⟩ := hv; exact Tryz.taLA _ w) (by simp [Ty.kind]) this⟩
  | pair r i x y a d hr hi ha hd ih ih2 =>
    obtain ⟨c, hc⟩ := gad i _ hi
    have := typ_of E hE hr (.pair _ i x y a d hr.root_of hi ha hd) (first_pair E hE i c x y a d hi hc (fun l => varsM_pre hd.wt _) ih.1 ih2.1)
    exact ⟨this, left_no E hE r _ _ hr (fun v hv w => by obtain ⟨c, _, rfl⟩ := hv; exact Tryz.taPA _ w) (by simp [Ty.kind]) this⟩
  | fn r i x y a d hr hi ha hd ih ih2 =>
    obtain ⟨c, hc⟩ := gad i _ hi
    have := typ_of E hE hr (.fn _ i x y a d hr.root_of hi ha hd) (first_fn E hE i c x y a d hi hc (fun l => varsM_pre hd.wt _) ih.2 ih2.1)
    exact ⟨this, left_yes E hE r i _ hr (by simp [Ty.kind]) this⟩
end Go.Proofs.YtleenphlgbklmabGreatDoor

namespace Go.Proofs.YtleenphlgbklmabGreatDoor
open Go.RowKit

theorem Tryz.mkP (w : World) : (Instr.makeMap 193 none).run Tryz.prog w = .ok (.map (some w.heap.size)) (w.alloc (.map #[] 0)) := by kernel_rfl
set_option maxRecDepth 20000 in
set_option maxHeartbeats 1000000 in
theorem lay_any (w : World) (v : Value) (ad : List Nat) (σ : St) (r : TR) (t : Ty) (K : FuncId) (caps : Array Value) (F : List ByteArray) (ok : World → List Nat → Prop) (nm : Nat → Prop) (L : List Nat) (hs : SX w ad σ) (hv : RV ad r v) (hd : Dn σ r t) (hok0 : ok w []) (hokk : OkK ad w.heap.size ok) (hnm : ∀ q, nm q → q < w.heap.size) (short : ∀ n, (F.getD n { data := #[] }).size ≤ 900)
    (hvar : ∀ (b pm i : Nat) (nm' : ByteArray) (g : Bool), σ[i]? = some ⟨.vr nm' g, none⟩ → SFst ⟨ad, σ, w.heap.size, b, pm, .func (.func K) #[] caps, F, ok, nm, L⟩ (.nd .vr i) (.mk { data := #[] } i [])) (hp : varsM t [] <+: L) (hsz : 1000 * sz t ≤ 1000000000) :
    Calls Tryz.prog 55 #[v, .func (.func K) #[] caps] w fun e w' => ∃ b pm sp es, e = .returned (.pointer (some ⟨b, 0, none⟩)) ∧ TX w' ad σ w.heap.size b pm (.func (.func K) #[] caps) F ok (varsM t []) sp es ∧ decS sp = shT F t ∧ Kt ad nm w w' := by
  have m1 := Tryz.mkP w
  obtain ⟨T, u, rfl⟩ := hv.iface
  have hlen : ad.length = σ.length := by obtain ⟨τ, h1, h2⟩ := hs; rw [h1.len, h2.len]
  have hadB : ∀ a, a ∈ ad → a < w.heap.size := fun a ha => by
    obtain ⟨τ, h1, _⟩ := hs
    obtain ⟨o, h3, _⟩ := h1.tb ha
    exact lt_of_block h3
  have hk2 : Kept w ((w.alloc (.map #[] 0)).alloc (.cells #[.func (.func K) #[] caps, .slice none 0 0, .int .i64 0, .map (some w.heap.size)] 196)) := (Kept.alloc w _).trans (Kept.alloc _ _)
  have hT : TX ((w.alloc (.map #[] 0)).alloc (.cells #[.func (.func K) #[] caps, .slice none 0 0, .int .i64 0, .map (some w.heap.size)] 196)) ad σ w.heap.size (w.heap.size + 1) w.heap.size (.func (.func K) #[] caps) F ok [] [] [] := by
    have hb : ((w.alloc (.map #[] 0)).alloc (.cells #[.func (.func K) #[] caps, .slice none 0 0, .int .i64 0, .map (some w.heap.size)] 196)).heap[w.heap.size + 1]? = some (.cells #[.func (.func K) #[] caps, .slice none 0 0, .int .i64 0, .map (some w.heap.size)] 196 (0, 0)) := by
      have := heap_alloc_new (w.alloc (.map #[] 0)) (.cells #[.func (.func K) #[] caps, .slice none 0 0, .int .i64 0, .map (some w.heap.size)] 196)
      simpa using this
    have hm : ((w.alloc (.map #[] 0)).alloc (.cells #[.func (.func K) #[] caps, .slice none 0 0, .int .i64 0, .map (some w.heap.size)] 196)).heap[w.heap.size]? = some (.map #[] 0) := (Kept.alloc _ _).blk (heap_alloc_new _ _)
    refine ⟨⟨by omega, ⟨.slice none 0 0, hb, World.ownsRow_nil _ _ _ _, by simp [Value.ownBlock], by simp [Value.ownBlock]⟩, by decide, by simp⟩, ⟨hm, by simp [pvE]⟩, hs.keep (fun a o _ ho => hk2.blk ho), hokk _ _ _ hok0 (Kt.of_kept hk2), hk2.size, Nat.le_refl _, hadB, by simp⟩
  have HT : Hid _ := (typ_all ⟨ad, σ, w.heap.size, w.heap.size + 1, w.heap.size, .func (.func K) #[] caps, F, ok, nm, L⟩ ⟨hokk, hnm, short⟩ hlen (hvar _ _) hd).1 _ _ [] [] [] hv hT hp (by show 0 + _ ≤ _; omega) (by show 0 + _ ≤ _; omega)
  clear hT hs hv hd hok0 hokk hvar hadB hlen hp
  go_enter Tryz.func55, Tryz.ntmps55
  go_wp2_with fail
  refine Calls.mono HT.out ?_
  rintro e w1 ⟨rfl, sp, es, hT1, hd1, _, _, _, hk1⟩
  have HT1 : Hid _ := hT1
  have HD1 : Hid _ := hd1
  clear HT hT1 hd1
  go_wp2
  go_ret
  refine ⟨_, _, sp, es, rfl, HT1.out, ?_, ((Kt.of_kept hk2).trans hk1).mono ?_⟩
  · have e := HD1.out
    rw [e]
    apply ByteArray.ext
    simp [decS]
  · rintro q hq (z | z)
    · have z : w.heap.size ≤ q := z
      omega
    · exact z
theorem Kept.below' {w w' : World} (h : Below w.heap.size w w') : Kept w w' := ⟨h.os, h.output, h.size, h.block⟩
set_option maxRecDepth 20000 in
set_option maxHeartbeats 1000000 in
theorem show_any (w : World) (v : Value) (ad : List Nat) (σ : St) (r : TR) (t : Ty) (K : FuncId) (caps : Array Value) (F : List ByteArray) (ok : World → List Nat → Prop) (nm : Nat → Prop) (L : List Nat) (hs : SX w ad σ) (hv : RV ad r v) (hd : Dn σ r t) (hok0 : ok w []) (hokk : OkK ad w.heap.size ok) (hnm : ∀ q, nm q → q < w.heap.size) (short : ∀ n, (F.getD n { data := #[] }).size ≤ 900)
    (hvar : ∀ (b pm i : Nat) (nm' : ByteArray) (g : Bool), σ[i]? = some ⟨.vr nm' g, none⟩ → SFst ⟨ad, σ, w.heap.size, b, pm, .func (.func K) #[] caps, F, ok, nm, L⟩ (.nd .vr i) (.mk { data := #[] } i [])) (hp : varsM t [] <+: L) (hsz : 1000 * sz t ≤ 1000000000) :
    Calls Tryz.prog 36 #[v, .func (.func K) #[] caps] w fun e w' => e = .returned (.string (shT F t)) ∧ SX w' ad σ ∧ Kt ad nm w w' := by
  have HL : Hid _ := lay_any w v ad σ r t K caps F ok nm L hs hv hd hok0 hokk hnm short hvar hp hsz
  clear hs hd hok0 hokk hvar hp
  obtain ⟨T, u, rfl⟩ := hv.iface
  go_enter Tryz.func36, Tryz.ntmps36
  go_wp2_with fail
  refine Calls.mono HL.out ?_
  rintro e w1 ⟨b, pm, sp, es, rfl, hT, hdx, hk1⟩
  have HW : Hid _ := written_any hT.tl
  rw [hdx] at HW
  have HT : Hid _ := hT
  clear HL hT hdx
  go_wp2_with fail
  refine Calls.mono HW.out ?_
  rintro e w2 ⟨rfl, hk2⟩
  have hkk := Kept.below' hk2
  go_wp2
  go_ret
  exact ⟨rfl, HT.out.st.keep (fun _ _ _ ho => hkk.blk ho), hk1.trans (Kt.of_kept hkk)⟩
end Go.Proofs.YtleenphlgbklmabGreatDoor

namespace Go.Proofs.YtleenphlgbklmabGreatDoor
open Go.RowKit
theorem VM.vblk {w : World} {mb : Nat} {names : List ByteArray} {vb : List Nat} (h : VM w mb names vb) : ∀ c, c ∈ vb → VBlk w c := by
  intro c hc
  obtain ⟨j, hj, rfl⟩ := List.getElem_of_mem hc
  have := h.vr j (h.len ▸ hj)
  have e : vb.getD j 0 = vb[j] := by simp [List.getD, hj]
  rw [e] at this
  exact ⟨_, this⟩
/-- the variables' blocks, with their names. -/
def NB (w : World) (vb : List Nat) (names : List ByteArray) : Prop := vb.length = names.length ∧ ∀ j, j < names.length → w.heap[vb.getD j 0]? = some (.cells #[.nilIface, .string (names.getD j { data := #[] }), .bool false] 148 (0, 0))
theorem VM.nodup {w : World} {mb : Nat} {names : List ByteArray} {vb : List Nat} (h : VM w mb names vb) (hn : names.Nodup) : vb.Nodup := by
  refine List.pairwise_iff_getElem.2 ?_
  intro i j hi hj hij e
  have h1 := h.vr i (h.len ▸ hi)
  have h2 := h.vr j (h.len ▸ hj)
  have e1 : vb.getD i 0 = vb[i] := by simp [List.getD, hi]
  have e2 : vb.getD j 0 = vb[j] := by simp [List.getD, hj]
  rw [e1, e] at h1
  have hi' : i < names.length := h.len ▸ hi
  have hj' : j < names.length := h.len ▸ hj
  have g1 : names.getD i { data := #[] } = names[i] := by simp [List.getD, hi']
  have g2 : names.getD j { data := #[] } = names[j] := by simp [List.getD, hj']
  rw [e2] at h2
  rw [h2, g1, g2] at h1
  simp at h1
  exact (List.pairwise_iff_getElem.1 hn) i j hi' hj' hij h1.symm
end Go.Proofs.YtleenphlgbklmabGreatDoor

namespace Go.Proofs.YtleenphlgbklmabGreatDoor
open Go.RowKit

set_option maxRecDepth 20000 in
set_option maxHeartbeats 1000000 in
theorem pnum_old (w : World) (nb mb b : Nat) (l : List Nat) (hc0 : w.cell? ⟨nb, 0, none⟩ = some (.map (some mb))) (h : NM w mb l) (hb : VBk w b) (j : Nat) (hj : l.findIdx? (fun x => b == x) = some j) (hlt : j < 260) :
    Calls Tryz.prog 57 #[.pointer (some ⟨b, 0, none⟩), .pointer (some ⟨nb, 0, none⟩)] w fun e w' => e = .returned (.string (letM j)) ∧ w' = w := by
  have hl := run_nlook w mb b l h hb
  rw [hj] at hl
  simp only at hl
  have HN : Hid _ := pnbn_small j hlt w
  clear h hj hb
  go_enter Tryz.func57, Tryz.ntmps57
  go_wp2_with (go_at_call 58; refine Calls.mono HN.out ?_; rintro e w' ⟨rfl, hww⟩; rw [hww]; clear hww w')
  go_ret
  exact ⟨rfl, rfl⟩
theorem NM.put {w : World} {mb b : Nat} {l : List Nat} (h : NM w mb l) (hb : VBk w b) : NM (mapSet w mb (.map (nFrom (l ++ [b]) 0).toArray (l.length + 1))) mb (l ++ [b]) := by
  have ho : ∀ c, VBk w c → VBk (mapSet w mb (.map (nFrom (l ++ [b]) 0).toArray (l.length + 1))) c := fun c ⟨s, hc⟩ => ⟨s, by
    rw [mapSet_other _ _ _ _ (fun z => by rw [z, h.mp] at hc; cases hc)]
    exact hc⟩
  refine ⟨?_, ?_⟩
  · rw [mapSet_same _ _ _ (lt_of_block h.mp)]
    simp
  · intro c hc
    simp at hc
    rcases hc with hc | rfl
    · exact ho c (h.vr c hc)
    · exact ho c hb
set_option maxRecDepth 20000 in
set_option maxHeartbeats 1000000 in
theorem pnum_new (w : World) (nb mb b : Nat) (l : List Nat) (hc0 : w.cell? ⟨nb, 0, none⟩ = some (.map (some mb))) (h : NM w mb l) (hb : VBk w b) (hj : l.findIdx? (fun x => b == x) = none) (hlt : l.length < 260) :
    Calls Tryz.prog 57 #[.pointer (some ⟨b, 0, none⟩), .pointer (some ⟨nb, 0, none⟩)] w fun e w' => e = .returned (.string (letM l.length)) ∧ NM w' mb (l ++ [b]) ∧ Kp (· = mb) w w' := by
  have hl := run_nlook w mb b l h hb
  rw [hj] at hl
  simp only at hl
  have hu := run_nput w mb b l h hb hj
  have hm := h.mp
  have hn : (nFrom l 0).toArray.size = l.length := by simp [nFrom_length]
  have hlen : (Builtin.len_ #[123] 3 #[.map (some mb)]).run Tryz.prog w = .ok (.int .i64 (l.length : Int)) w := by
    simp [Builtin.len_, run_underlying Tryz.underlying123, MapKept.run_getObj_map hm, Result.andThen, nFrom_length, goInt]
  have HP : Hid _ := h.put hb
  have HK : Hid _ := mapSet_kp w mb (.map (nFrom (l ++ [b]) 0).toArray (l.length + 1))
  have HN : Hid _ := pnbn_small l.length hlt (mapSet w mb (.map (nFrom (l ++ [b]) 0).toArray (l.length + 1)))
  clear h hj hb hm hn
  go_enter Tryz.func57, Tryz.ntmps57
  go_wp2_with (go_at_call 58; refine Calls.mono HN.out ?_; rintro e w' ⟨rfl, hww⟩; rw [hww]; clear hww w')
  go_ret
  exact ⟨rfl, HP.out, HK.out⟩
end Go.Proofs.YtleenphlgbklmabGreatDoor

namespace Go.Proofs.YtleenphlgbklmabGreatDoor
open Go.RowKit
theorem Tryz.mkN (w : World) : (Instr.makeMap 123 none).run Tryz.prog w = .ok (.map (some w.heap.size)) (w.alloc (.map #[] 0)) := by kernel_rfl
set_option maxRecDepth 20000 in
theorem pnio_any (w : World) : Calls Tryz.prog 37 #[] w fun e w' => ∃ nb mb, e = .returned (.func (.func 57) #[] #[.pointer (some ⟨nb, 0, none⟩)]) ∧ w'.heap[nb]? = some (.cells #[.map (some mb)] 123 (0, 0)) ∧ NM w' mb [] ∧ Kp (fun _ => False) w w' ∧ w.heap.size ≤ mb := by
  have m1 := Tryz.mkN w
  go_enter Tryz.func37, Tryz.ntmps37
  go_wp2
  go_ret
  have hk1 : Kp (fun _ => False) (w.alloc (.map #[] 0)) ((w.alloc (.map #[] 0)).alloc (.cells #[.map (some w.heap.size)] 123)) := (Kp.refl _ _).alloc _
  refine ⟨w.heap.size + 1, w.heap.size, rfl, ?_, ⟨hk1.blk (heap_alloc_new _ _) (fun z => z), by simp⟩, ((Kp.refl _ w).alloc _).trans hk1, Nat.le_refl _⟩
  have := heap_alloc_new (w.alloc (.map #[] 0)) (.cells #[.map (some w.heap.size)] 123)
  simpa using this
end Go.Proofs.YtleenphlgbklmabGreatDoor
