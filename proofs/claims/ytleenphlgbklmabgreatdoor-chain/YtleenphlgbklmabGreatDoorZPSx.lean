import Derived.Test.YtleenphlgbklmabGreatDoorZPVv
import Derived.Test.YtleenphlgbklmabGreatDoorZTEn
import Derived.Deep.RegionHeld3
set_option linter.unusedVariables false
set_option linter.unusedSimpArgs false
namespace Go.Proofs.YtleenphlgbklmabGreatDoor
open Go.RowKit

/-- a node's block was changed. -/
theorem SW.upd {w w' : World} {ad : List Nat} {τ : St} (h : SW w ad τ) {i b : Nat} {x : Nd} {nk : NK} {s : Option TR} {sv : Value} {o : Obj} (hi : τ[i]? = some x) (hb : ad[i]? = some b) (ho : w'.heap[b]? = some o) (hv : SV ad s sv) (hn : NBk ad nk sv o) (hk : ∀ q, q ≠ b → w'.heap[q]? = w.heap[q]?) : SW w' ad (τ.set i ⟨nk, s⟩) := by
  refine ⟨by simp [h.len], h.inj, ?_⟩
  intro j mk s' c hj hc
  by_cases e : i = j
  · subst e
    rw [hb] at hc
    simp at hc
    subst hc
    have hlt := (List.getElem?_eq_some_iff.1 hi).1
    simp [hlt] at hj
    obtain ⟨rfl, rfl⟩ := hj
    exact ⟨sv, o, ho, hv, hn⟩
  · rw [List.getElem?_set_ne e] at hj
    obtain ⟨sv', o', h3, h4, h5⟩ := h.blk j mk s' c hj hc
    exact ⟨sv', o', (hk c (fun z => e (nodup_get h.inj hb (z ▸ hc)))).trans h3, h4, h5⟩
theorem SX.mark {w : World} {ad : List Nat} {σ : St} (hs : SX w ad σ) {i b : Nat} {nm : ByteArray} {g : Bool} (hi : σ[i]? = some ⟨.vr nm g, none⟩) (hb : ad[i]? = some b) :
    (∃ x, w.frozen? ⟨b, 2, none⟩ = false ∧ w.cell? ⟨b, 2, none⟩ = some x) ∧ SX (w.setCell ⟨b, 2, none⟩ (.bool true)) ad (σ.set i ⟨.vr nm true, none⟩) ∧ Kt ad (fun _ => False) w (w.setCell ⟨b, 2, none⟩ (.bool true)) := by
  obtain ⟨o, ho, hn⟩ := hs.blk hi hb
  have ht := hn.tb
  have ho' := ho
  rw [show o = _ from hn] at ho
  obtain ⟨τ, h1, h2⟩ := hs
  refine ⟨⟨_, by simp [World.frozen?, ho], by simp [World.cell?, ho]; rfl⟩, ⟨_, h1.upd (nk := .vr nm true) (h2.root hi) hb (o := .cells #[.nilIface, .string nm, .bool true] 148 (0, 0)) ?_ (s := none) (sv := .nilIface) rfl rfl (fun q hq => Below.heap_setCell _ _ _ q hq), h2.mark (nk := .vr nm g) (nk' := .vr nm true) rfl hi⟩, Kt.setT ho' ht (List.mem_of_getElem? hb) _ _⟩
  simp [World.setCell, ho, Array.getElem?_modify]
def SGen (n : Nat) : Prop := ∀ (σ σ' : St) (r : TR) (bd : List TR), genF n σ r bd = some σ' → ∀ (w : World) (ad : List Nat) (v : Value) (mb : Nat), SX w ad σ → RV ad r v → TMp w mb ad (pvP bd) →
  Calls Tryz.prog 102 #[v, .map (some mb)] w fun e w' => e = .returned (.tuple #[]) ∧ SX w' ad σ' ∧ TMp w' mb ad (pvP bd) ∧ Kt ad (fun _ => False) w w'
theorem mark_root {σ : St} {i : Nat} {k : Kd} (hr : Rp σ (.nd .vr i) (.nd k i)) : ∃ nm g, σ[i]? = some ⟨.vr nm g, none⟩ ∧ markF σ (.nd .vr i) = σ.set i ⟨.vr nm true, none⟩ ∧ Rp (σ.set i ⟨.vr nm true, none⟩) (.nd .vr i) (.nd .vr i) ∧ kidsF (σ.set i ⟨.vr nm true, none⟩) (.nd .vr i) = some [] := by
  obtain ⟨nk, hk, hi⟩ := hr.rt
  obtain ⟨nk2, s, hk2, hi2⟩ := rp_nd hr
  rw [hi] at hi2
  simp only [Option.some.injEq, Nd.mk.injEq] at hi2
  obtain ⟨rfl, rfl⟩ := hi2
  cases nk with
  | vr nm g =>
    have hl := (List.getElem?_eq_some_iff.1 hi).1
    have e : (σ.set i ⟨.vr nm true, none⟩)[i]? = some ⟨.vr nm true, none⟩ := by rw [List.getElem?_set_self hl]
    exact ⟨nm, g, hi, by simp [markF, hi], Rp.root i (.vr nm true) e, by simp only [kidsF, e]⟩
  | ls x => cases hk2
  | pr x y => cases hk2
  | ar x y => cases hk2
set_option maxRecDepth 20000 in
set_option maxHeartbeats 2000000 in
theorem gen_sx : ∀ n, SGen n := by
  intro n
  induction n with
  | zero => intro σ σ' r bd h; simp [genF] at h
  | succ n ih =>
    intro σ σ' r bd h w ad v mb hs hv hm
    simp only [genF, Option.bind_eq_some_iff] at h
    obtain ⟨r0, hr, h⟩ := h
    have hr := repF_rp _ hr
    have HK : Hid _ := known_se hr w v hs hv
    have HIH : Hid (∀ (σ σ' : St) (r : TR), genF n σ r bd = some σ' → ∀ (w : World) (v : Value), SX w ad σ → RV ad r v → TMp w mb ad (pvP bd) → Calls Tryz.prog 102 #[v, .map (some mb)] w fun e w' => e = .returned (.tuple #[]) ∧ SX w' ad σ' ∧ TMp w' mb ad (pvP bd) ∧ Kt ad (fun _ => False) w w') := fun σ σ' r h w v => ih σ σ' r bd h w ad v mb
    have HR : Hid _ := hr.root_of
    have HM : Hid _ := hm
    obtain ⟨T, u, rfl⟩ := hv.iface
    clear hs hr hv ih hm
    go_enter Tryz.func102, Tryz.ntmps102
    go_wp2_with fail
    refine Calls.mono HK.out ?_
    rintro e w1 ⟨v0, rfl, hv0, hs1, hk1⟩
    clear HK
    have HS1 : Hid _ := hs1
    have HK1 : Hid _ := hk1
    have hm1 := HM.out.kt hk1 id
    have HM1 : Hid _ := hm1
    have HH : Hid _ := has_ps hs1 hv0 hm1
    have HV0 : Hid _ := hv0
    obtain ⟨T0, u0, rfl⟩ := hv0.iface
    clear hs1 hk1 hm1 hv0 HM
    go_wp2_with fail
    refine Calls.mono HH.out ?_
    rintro e w2 ⟨rfl, hkh⟩
    have HS2 : Hid _ := SX.kept HS1.out hkh
    have HM2 : Hid _ := HM1.out.keptP hkh
    have HK2 : Hid _ := HK1.out.trans (Kt.of_kept hkh)
    clear HH hkh HS1 HM1 HK1
    split at h
    · rename_i hb
      simp only [Option.some.injEq] at h
      subst h
      rw [hb]
      go_wp2
      exact bodyPost_ret (results_none Tryz.results102 _ _ _) rfl ⟨rfl, HS2.out, HM2.out, HK2.out⟩
    · rename_i hb
      have hb : memT r0 bd = false := by simpa using hb
      rw [hb]
      split at h
      · rename_i i hi
        obtain ⟨b, hbi, hve, hre, hta⟩ := ta_var HV0.out hi
        have hta := hta w2
        simp only [Option.some.injEq] at h
        subst h
        have hrr := HR.out
        rw [hre] at hrr
        obtain ⟨nm, gg, hi, hmk, hrt, hkk⟩ := mark_root hrr
        obtain ⟨⟨x, hx1, hx2⟩, hx3, hx4⟩ := SX.mark HS2.out hi hbi
        rw [← hmk, ← hre] at hx3
        have HX3 : Hid _ := hx3
        have HX4 : Hid _ := HK2.out.trans hx4
        have HX5 : Hid _ := HM2.out.kt hx4 id
        obtain ⟨T9, u9, f, rv, e9, hm, hcf, HB⟩ := below0 (w := w2.setCell ⟨b, 2, none⟩ (.bool true)) hrt (hre ▸ HV0.out) hkk
        simp only [Value.iface.injEq] at e9
        obtain ⟨rfl, rfl⟩ := e9
        have HB : Hid _ := HB
        clear hx3 hx4 hkk hrt hmk hi hbi hb hve hre HR HIH hrr
        go_wp2_with fail
        refine Calls.mono HB.out ?_
        rintro e w3 ⟨rfl, hk3⟩
        have HF : Hid _ := And.intro (SX.kept HX3.out hk3) (And.intro (HX5.out.keptP hk3) (HX4.out.trans (Kt.of_kept hk3)))
        clear hk3 HB hm hcf
        go_wp2
        refine wp_loop_rounds 1 ?_
        rw [rounds_succ]
        go_wp2
        exact bodyPost_end (results_none Tryz.results102 _ _ _) rfl ⟨rfl, HF.out⟩
      · rename_i hi
        obtain ⟨p, hta⟩ := ta_not HV0.out hi
        have hta := hta w2
        simp only [Option.bind_eq_some_iff] at h
        obtain ⟨ks, hk, h⟩ := h
        clear hi hb
        split at h
        · simp only [Option.some.injEq] at h
          subst h
          obtain ⟨T9, u9, f, rv, e9, hm, hcf, HB⟩ := below0 (w := w2) HR.out HV0.out hk
          simp only [Value.iface.injEq] at e9
          obtain ⟨rfl, rfl⟩ := e9
          have HB : Hid _ := HB
          clear HIH HR hk
          go_wp2_with fail
          refine Calls.mono HB.out ?_
          rintro e w3 ⟨rfl, hk3⟩
          have HF : Hid _ := And.intro (SX.kept HS2.out hk3) (And.intro (HM2.out.keptP hk3) (HK2.out.trans (Kt.of_kept hk3)))
          clear hk3 HB hm hcf
          go_wp2
          refine wp_loop_rounds 1 ?_
          rw [rounds_succ]
          go_wp2
          exact bodyPost_end (results_none Tryz.results102 _ _ _) rfl ⟨rfl, HF.out⟩
        · rename_i x
          obtain ⟨T9, u9, f, rv, T1, u1, e9, hm, hcf, hx, HB⟩ := below1 HS2.out HR.out HV0.out hk
          simp only [Value.iface.injEq] at e9
          obtain ⟨rfl, rfl⟩ := e9
          have HB : Hid _ := HB
          have HX : Hid _ := hx
          have HC : Hid _ := HIH.out _ _ x h
          clear HR hk hx h HIH
          go_wp2_with fail
          refine Calls.mono HB.out ?_
          rintro e w3 ⟨g, rfl, hg, hbl, hk3⟩
          have HC : Hid _ := HC.out w3 _ (SX.kept HS2.out hk3) HX.out (HM2.out.keptP hk3)
          have HK3 : Hid _ := HK2.out.trans (Kt.of_kept hk3)
          clear hk3 HB hm hcf
          have d0 : w3.cell? ⟨g, 0, none⟩ = some (.iface T1 u1) := by simp [World.cell?, hbl]
          clear hbl hg
          go_wp2_with fail
          refine wp_loop_rounds 2 ?_
          rw [rounds_succ]
          go_wp2_with fail
          refine Calls.mono HC.out ?_
          rintro e w4 ⟨rfl, hs4, hm4, hk4⟩
          have HF : Hid _ := And.intro hs4 (And.intro hm4 (HK3.out.trans hk4))
          clear hs4 hk4 hm4 HC
          go_wp2
          rw [rounds_succ]
          go_wp2
          exact bodyPost_end (results_none Tryz.results102 _ _ _) rfl ⟨rfl, HF.out⟩
        · rename_i x y
          simp only [Option.bind_eq_some_iff] at h
          obtain ⟨σ1, h1, h⟩ := h
          obtain ⟨T9, u9, f, rv, T1, u1, T2, u2, e9, hm, hcf, hx, hy, HB⟩ := below2 HS2.out HR.out HV0.out hk
          simp only [Value.iface.injEq] at e9
          obtain ⟨rfl, rfl⟩ := e9
          have HB : Hid _ := HB
          have HX : Hid _ := hx
          have HY : Hid _ := hy
          have HC : Hid _ := HIH.out _ _ x h1
          have HD : Hid _ := HIH.out _ _ y h
          clear HR hk hx hy h h1 HIH
          go_wp2_with fail
          refine Calls.mono HB.out ?_
          rintro e w3 ⟨g, rfl, hg, hbl, hk3⟩
          have HC : Hid _ := HC.out w3 _ (SX.kept HS2.out hk3) HX.out (HM2.out.keptP hk3)
          have HK3 : Hid _ := HK2.out.trans (Kt.of_kept hk3)
          clear hk3 HB hm hcf
          have d0 : w3.cell? ⟨g, 0, none⟩ = some (.iface T1 u1) := by simp [World.cell?, hbl]
          have HBL : Hid _ := hbl
          clear hbl hg
          go_wp2_with fail
          refine wp_loop_rounds 3 ?_
          rw [rounds_succ]
          go_wp2_with fail
          refine Calls.mono HC.out ?_
          rintro e w4 ⟨rfl, hs4, hm4, hk4⟩
          have hbl4 := hk4.typs HBL.out (fun z => z)
          have d1 : w4.cell? ⟨g, 1, none⟩ = some (.iface T2 u2) := by simp [World.cell?, hbl4]
          have HD : Hid _ := HD.out w4 _ hs4 HY.out hm4
          have HK4 : Hid _ := HK3.out.trans hk4
          clear hs4 hk4 hm4 HC hbl4
          go_wp2_with fail
          rw [rounds_succ]
          go_wp2_with fail
          refine Calls.mono HD.out ?_
          rintro e w5 ⟨rfl, hs5, hm5, hk5⟩
          have HF : Hid _ := And.intro hs5 (And.intro hm5 (HK4.out.trans hk5))
          clear hs5 hk5 hm5 HD
          go_wp2
          rw [rounds_succ]
          go_wp2
          exact bodyPost_end (results_none Tryz.results102 _ _ _) rfl ⟨rfl, HF.out⟩
        · simp at h
end Go.Proofs.YtleenphlgbklmabGreatDoor

namespace Go.Proofs.YtleenphlgbklmabGreatDoor
open Go.RowKit

def RIn (n : Nat) : TR → Prop
  | .nd _ i => i < n
  | _ => True
/-- the ways lead to nodes of the store. -/
def WS (σ : St) : Prop := ∀ (i : Nat) (nk : NK) (r : TR), σ[i]? = some ⟨nk, some r⟩ → RIn σ.length r
theorem RIn.up {n m : Nat} {r : TR} (h : RIn n r) (hm : n ≤ m) : RIn m r := by
  cases r with
  | int => trivial
  | bool => trivial
  | nd k i => exact Nat.lt_of_lt_of_le h hm
theorem Rp.rin {σ : St} {a r : TR} (h : Rp σ a r) : RIn σ.length r := by
  cases r with
  | int => trivial
  | bool => trivial
  | nd k i =>
    obtain ⟨nk, _, hi⟩ := h.rt
    exact (List.getElem?_eq_some_iff.1 hi).1
theorem WS.set {σ τ : St} {i : Nat} {r : TR} (h : WS σ) (hs : stF σ i r = some τ) : WS τ := by
  obtain ⟨nk, hi, hr, hne, rfl⟩ := stF_some hs
  intro j mk s hj
  simp only [List.length_set]
  by_cases e : i = j
  · subst e
    rw [List.getElem?_set_self (List.getElem?_eq_some_iff.1 hi).1] at hj
    simp only [Option.some.injEq, Nd.mk.injEq] at hj
    rw [← hj.2]
    exact hr.rin
  · rw [List.getElem?_set_ne e] at hj
    exact h j mk s hj
theorem WS.bec {σ τ : St} {i : Nat} {r : TR} (h : WS σ) (hs : becF σ i r = some (.ok τ)) : WS τ := by
  simp only [becF, Option.bind_eq_some_iff] at hs
  obtain ⟨l, _, hs⟩ := hs
  split at hs
  · simp at hs
  · simp only [Option.bind_eq_some_iff, Option.some.injEq, Oc.ok.injEq] at hs
    obtain ⟨ρ, h1, rfl⟩ := hs
    exact h.set h1
theorem WS.eq : ∀ (n : Nat) {σ τ : St} {x y : TR}, WS σ → eqF n σ x y = some (.ok τ) → WS τ := by
  intro n
  induction n with
  | zero => intro σ τ x y _ h; simp [eqF] at h
  | succ n ih =>
    intro σ τ x y h hs
    simp only [eqF, Option.bind_eq_some_iff] at hs
    obtain ⟨x0, _, y0, _, hs⟩ := hs
    split at hs
    · simp only [Option.some.injEq, Oc.ok.injEq] at hs
      exact hs ▸ h
    · split at hs
      · exact h.bec hs
      · split at hs
        · exact h.bec hs
        · simp only [Option.bind_eq_some_iff] at hs
          obtain ⟨o, ho, hs⟩ := hs
          cases o with
          | er j => simp at hs
          | ok σ1 =>
            have hw : WS σ1 := by
              simp only [belF] at ho
              split at ho
              · simp only [Option.bind_eq_some_iff] at ho
                obtain ⟨os, _, ks, _, ho⟩ := ho
                split at ho
                · exact ih h ho
                · simp only [Option.bind_eq_some_iff] at ho
                  obtain ⟨o, h1, ho⟩ := ho
                  cases o with
                  | er j => simp at ho
                  | ok σ2 => exact ih (ih h h1) ho
                · simp at ho
              · simp at ho
            cases x0 with
            | int => simp at hs
            | bool => simp at hs
            | nd k i =>
              simp only [Option.bind_eq_some_iff, Option.some.injEq, Oc.ok.injEq] at hs
              obtain ⟨ρ, h1, rfl⟩ := hs
              exact hw.set h1
theorem WS.mark {σ : St} (h : WS σ) (r : TR) : WS (markF σ r) := by
  unfold markF
  split
  · split
    · rename_i i _ nm g hi
      intro j mk s hj
      simp only [List.length_set]
      by_cases e : i = j
      · subst e
        rw [List.getElem?_set_self (List.getElem?_eq_some_iff.1 hi).1] at hj
        simp at hj
      · rw [List.getElem?_set_ne e] at hj
        exact h j mk s hj
    · exact h
  · exact h
theorem WS.gen : ∀ (n : Nat) {σ τ : St} {r : TR} {bd : List TR}, WS σ → genF n σ r bd = some τ → WS τ := by
  intro n
  induction n with
  | zero => intro σ τ r bd _ h; simp [genF] at h
  | succ n ih =>
    intro σ τ r bd h hs
    simp only [genF, Option.bind_eq_some_iff] at hs
    obtain ⟨r0, _, hs⟩ := hs
    split at hs
    · simp only [Option.some.injEq] at hs
      exact hs ▸ h
    · split at hs
      · simp only [Option.some.injEq] at hs
        exact hs ▸ h.mark _
      · simp only [Option.bind_eq_some_iff] at hs
        obtain ⟨ks, _, hs⟩ := hs
        split at hs
        · simp only [Option.some.injEq] at hs
          exact hs ▸ h
        · exact ih h hs
        · simp only [Option.bind_eq_some_iff] at hs
          obtain ⟨σ1, h1, hs⟩ := hs
          exact ih (ih h h1) hs
        · simp at hs
theorem WS.add {σ : St} (h : WS σ) (nk : NK) : WS (σ ++ [⟨nk, none⟩]) := by
  intro j mk s hj
  by_cases e : j < σ.length
  · rw [List.getElem?_append_left e] at hj
    exact (h j mk s hj).up (by simp)
  · have e2 : j = σ.length := by
      have := (List.getElem?_eq_some_iff.1 hj).1
      simp at this
      omega
    subst e2
    simp at hj
theorem get_last {σ : St} {x y : Nd} {j : Nat} (hj : (σ ++ [x])[j]? = some y) : (j < σ.length ∧ σ[j]? = some y) ∨ (j = σ.length ∧ x = y) := by
  by_cases e : j < σ.length
  · rw [List.getElem?_append_left e] at hj
    exact .inl ⟨e, hj⟩
  · have e2 : j = σ.length := by
      have := (List.getElem?_eq_some_iff.1 hj).1
      simp at this
      omega
    subst e2
    simp at hj
    exact .inr ⟨rfl, hj⟩
theorem rp_less {σ : St} {x : NK} (h : WS σ) {a b : TR} (hr : Rp (σ ++ [⟨x, none⟩]) a b) : RIn σ.length a → Rp σ a b := by
  induction hr with
  | int => intro _; exact .int
  | bool => intro _; exact .bool
  | root j mk hj =>
    intro hin
    rcases get_last hj with ⟨_, q⟩ | ⟨q, _⟩
    · exact .root j mk q
    · have : j < σ.length := hin
      omega
  | step j mk r r0 hj _ ih =>
    intro hin
    rcases get_last hj with ⟨_, q⟩ | ⟨_, q⟩
    · exact .step j mk r r0 q (ih (h j mk r q))
    · simp at q
theorem Ev.add {σ τ : St} (h : Ev σ τ) (hw : WS σ) (x : NK) : Ev (σ ++ [⟨x, none⟩]) (τ ++ [⟨x, none⟩]) := by
  refine ⟨by simp [h.len], ?_, ?_⟩
  · intro j mk s hj
    rcases get_last hj with ⟨l, q⟩ | ⟨l, q⟩
    · obtain ⟨s', h1, h2⟩ := h.kk j mk s q
      exact ⟨s', get_snoc h1, h2⟩
    · simp only [Nd.mk.injEq] at q
      obtain ⟨rfl, rfl⟩ := q
      subst l
      exact ⟨none, by rw [← h.len]; simp, rfl⟩
  · intro a b hab
    by_cases hin : RIn σ.length a
    · exact (h.rp _ _ (rp_less hw hab hin)).up _
    · cases a with
      | int => exact absurd trivial hin
      | bool => exact absurd trivial hin
      | nd k j =>
        generalize hx : TR.nd k j = z at hab
        cases hab with
        | int => cases hx
        | bool => cases hx
        | root i mk hi =>
          simp only [TR.nd.injEq] at hx
          obtain ⟨rfl, rfl⟩ := hx
          rcases get_last hi with ⟨l, _⟩ | ⟨l, q⟩
          · exact absurd l hin
          · simp only [Nd.mk.injEq, and_true] at q
            subst q
            subst l
            exact .root _ x (by rw [← h.len]; simp)
        | step i mk r r0 hi _ =>
          simp only [TR.nd.injEq] at hx
          obtain ⟨rfl, rfl⟩ := hx
          rcases get_last hi with ⟨l, _⟩ | ⟨_, q⟩
          · exact absurd l hin
          · simp at q
end Go.Proofs.YtleenphlgbklmabGreatDoor

namespace Go.Proofs.YtleenphlgbklmabGreatDoor
open Go.RowKit

theorem SX.add {w : World} {ad : List Nat} {σ : St} (hs : SX w ad σ) (hw : WS σ) {b : Nat} (hb : ¬ b ∈ ad) {nk : NK} {o : Obj} (ho : w.heap[b]? = some o) (hn : NBk ad nk .nilIface o) : SX w (ad ++ [b]) (σ ++ [⟨nk, none⟩]) := by
  obtain ⟨τ, h1, h2⟩ := hs
  exact ⟨_, h1.add hb ho hn, h2.add hw nk⟩
theorem SX.lt {w : World} {ad : List Nat} {σ : St} (hs : SX w ad σ) {b : Nat} (hb : b ∈ ad) : b < w.heap.size := by
  obtain ⟨τ, h1, _⟩ := hs
  obtain ⟨o, ho, _⟩ := h1.tb hb
  exact lt_of_block ho
theorem RV.last {ad : List Nat} {σ : St} {b : Nat} (h : ad.length = σ.length) (k : Kd) : RV (ad ++ [b]) (.nd k σ.length) (.iface k.tp (.pointer (some ⟨b, 0, none⟩))) := ⟨b, by rw [← h]; simp, rfl⟩
/-- what a call that makes types leaves. -/
structure Gw (S : Nat → Prop) (ad ad' : List Nat) (w w' : World) : Prop where
  up : ∃ u, ad' = ad ++ u ∧ ∀ q, q ∈ u → w.heap.size ≤ q
  kt : Kt ad S w w'
theorem Gw.of {S : Nat → Prop} {ad : List Nat} {w w' : World} (k : Kt ad S w w') : Gw S ad ad w w' := ⟨⟨[], by simp, by simp⟩, k⟩
theorem Gw.trans {S : Nat → Prop} {a b c : List Nat} {w1 w2 w3 : World} (h : Gw S a b w1 w2) (g : Gw S b c w2 w3) : Gw S a c w1 w3 := by
  obtain ⟨⟨u, rfl, hu⟩, k⟩ := h
  obtain ⟨⟨u2, rfl, hu2⟩, k2⟩ := g
  refine ⟨⟨u ++ u2, by simp, ?_⟩, k.then k2 ?_⟩
  · intro q hq
    simp at hq
    rcases hq with hq | hq
    · exact hu q hq
    · exact Nat.le_trans k.size (hu2 q hq)
  · intro q hq
    simp at hq
    rcases hq with hq | hq
    · exact .inl hq
    · exact .inr (hu q hq)
theorem Gw.rv {S : Nat → Prop} {a b : List Nat} {w1 w2 : World} (h : Gw S a b w1 w2) {r : TR} {v : Value} (hv : RV a r v) : RV b r v := by
  obtain ⟨⟨u, rfl, hu⟩, _⟩ := h
  exact hv.up u
theorem Gw.snoc {S : Nat → Prop} {ad : List Nat} {w w' : World} {b : Nat} (k : Kt ad S w w') (hb : w.heap.size ≤ b) : Gw S ad (ad ++ [b]) w w' := ⟨⟨[b], rfl, by intro q hq; simp at hq; omega⟩, k⟩
/-- a new variable. -/
theorem SX.newv {w : World} {ad : List Nat} {σ : St} (hs : SX w ad σ) (hw : WS σ) (g : Bool) : SX (w.alloc (.cells #[.nilIface, .string { data := #[] }, .bool g] 148)) (ad ++ [w.heap.size]) (σ ++ [⟨.vr { data := #[] } g, none⟩]) :=
  (hs.kept (Kept.alloc _ _)).add hw (fun z => by have := hs.lt z; omega) (heap_alloc_new _ _) rfl
theorem SX.vcell {w : World} {ad : List Nat} {σ : St} (hs : SX w ad σ) {i b : Nat} {nm : ByteArray} {g : Bool} (hi : σ[i]? = some ⟨.vr nm g, none⟩) (hb : ad[i]? = some b) : w.cell? ⟨b, 2, none⟩ = some (.bool g) := by
  obtain ⟨o, ho, hn⟩ := hs.blk hi hb
  rw [show o = _ from hn] at ho
  simp [World.cell?, ho]
def FvO (w : World) (mb : Nat) (ad : List Nat) (σ' : St) (r' : TR) (m' : List (Nat × Nat)) (e : Ending) (w' : World) : Prop := ∃ c ad', e = .returned (.pointer (some ⟨c, 0, none⟩)) ∧ RV ad' r' (.iface 124 (.pointer (some ⟨c, 0, none⟩))) ∧ SX w' ad' σ' ∧ WS σ' ∧ VV w' mb ad' σ' m' ∧ Gw (fun q => q = mb) ad ad' w w'
set_option maxRecDepth 20000 in
set_option maxHeartbeats 2000000 in
theorem fvar_old {w : World} {mb : Nat} {ad : List Nat} {σ : St} {m : List (Nat × Nat)} {i b : Nat} {nm : ByteArray} (hi : σ[i]? = some ⟨.vr nm false, none⟩) (hb : ad[i]? = some b) (hs : SX w ad σ) (hw : WS σ) (hm : VV w mb ad σ m) : Calls Tryz.prog 177 #[.map (some mb), .pointer (some ⟨b, 0, none⟩)] w (FvO w mb ad σ (.nd .vr i) m) := by
  have hc := hs.vcell hi hb
  have HF : Hid (FvO w mb ad σ (.nd .vr i) m (.returned (.pointer (some ⟨b, 0, none⟩))) w) := ⟨b, ad, rfl, ⟨b, hb, rfl⟩, hs, hw, hm, Gw.of (Kt.refl _ _ _)⟩
  clear hs hw hm hi hb
  go_enter Tryz.func177, Tryz.ntmps177
  go_wp2
  go_ret
  exact HF.out
set_option maxRecDepth 20000 in
set_option maxHeartbeats 2000000 in
theorem fvar_hit {w : World} {mb : Nat} {ad : List Nat} {σ : St} {m : List (Nat × Nat)} {i b j : Nat} {nm : ByteArray} (hi : σ[i]? = some ⟨.vr nm true, none⟩) (hb : ad[i]? = some b) (hj : lookF i m = some j) (hs : SX w ad σ) (hw : WS σ) (hm : VV w mb ad σ m) : Calls Tryz.prog 177 #[.map (some mb), .pointer (some ⟨b, 0, none⟩)] w (FvO w mb ad σ (.nd .vr j) m) := by
  have hc := hs.vcell hi hb
  obtain ⟨c, hcj, hl, _⟩ := (look_vv hm hs hi rfl hb 313 Tryz.underlying313).1 j hj
  have HF : Hid (FvO w mb ad σ (.nd .vr j) m (.returned (.pointer (some ⟨c, 0, none⟩))) w) := ⟨c, ad, rfl, ⟨c, hcj, rfl⟩, hs, hw, hm, Gw.of (Kt.refl _ _ _)⟩
  clear hs hw hm hi hb hj hcj
  go_enter Tryz.func177, Tryz.ntmps177
  go_wp2
  go_ret
  exact HF.out
set_option maxRecDepth 20000 in
set_option maxHeartbeats 2000000 in
theorem fvar_new {w : World} {mb : Nat} {ad : List Nat} {σ : St} {m : List (Nat × Nat)} {i b : Nat} {nm : ByteArray} (hi : σ[i]? = some ⟨.vr nm true, none⟩) (hb : ad[i]? = some b) (hj : lookF i m = none) (hs : SX w ad σ) (hw : WS σ) (hm : VV w mb ad σ m) : Calls Tryz.prog 177 #[.map (some mb), .pointer (some ⟨b, 0, none⟩)] w (FvO w mb ad (σ ++ [newV]) (.nd .vr σ.length) (m ++ [(i, σ.length)])) := by
  have hc := hs.vcell hi hb
  obtain ⟨hl, _⟩ := (look_vv hm hs hi rfl hb 313 Tryz.underlying313).2 hj
  have hka : Kept w (w.alloc (.cells #[.nilIface, .string { data := #[] }, .bool false] 148)) := Kept.alloc _ _
  have hs1 := hs.newv hw false
  have hm1 := (hm.kt (Kt.of_kept (ad := ad) (S := fun _ => False) hka) id).up [w.heap.size] [newV]
  have hlast := RV.last (b := w.heap.size) hs.len .vr
  have hbu : (ad ++ [w.heap.size])[i]? = some b := by rw [List.getElem?_append_left (List.getElem?_eq_some_iff.1 hb).1]; exact hb
  obtain ⟨w2, hp, hs2, hm2, hk2⟩ := put_vv hm1 hs1 (i := i) (b := b) (j := σ.length) (c := w.heap.size) (nd := ⟨.vr nm true, none⟩) (get_snoc hi) rfl hbu (by rw [← hs.len]; simp) hj 313 Tryz.underlying313
  have HF : Hid (FvO w mb ad (σ ++ [newV]) (.nd .vr σ.length) (m ++ [(i, σ.length)]) (.returned (.pointer (some ⟨w.heap.size, 0, none⟩))) w2) := ⟨_, _, rfl, hlast, hs2, hw.add _, hm2, (Gw.snoc (Kt.of_kept hka) (Nat.le_refl _)).trans (Gw.of hk2)⟩
  clear hs hw hm hi hb hj hs1 hm1 hlast hbu hs2 hm2 hk2 hka
  go_enter Tryz.func177, Tryz.ntmps177
  go_wp2
  go_ret
  exact HF.out
end Go.Proofs.YtleenphlgbklmabGreatDoor

namespace Go.Proofs.YtleenphlgbklmabGreatDoor
open Go.RowKit

def InO (w : World) (mb : Nat) (ad : List Nat) (p : TR × St × List (Nat × Nat)) (e : Ending) (w' : World) : Prop := ∃ v' ad', e = .returned v' ∧ RV ad' p.1 v' ∧ SX w' ad' p.2.1 ∧ WS p.2.1 ∧ VV w' mb ad' p.2.1 p.2.2 ∧ Gw (fun q => q = mb) ad ad' w w'
def SIns (n : Nat) : Prop := ∀ (σ : St) (r : TR) (m : List (Nat × Nat)) (p : TR × St × List (Nat × Nat)), instF n σ r m = some p → ∀ (w : World) (ad : List Nat) (v : Value) (mb : Nat), SX w ad σ → WS σ → RV ad r v → VV w mb ad σ m →
  Calls Tryz.prog 163 #[.map (some mb), v] w (InO w mb ad p)
theorem Gw.pre {S : Nat → Prop} {ad ad' : List Nat} {w w1 w' : World} (k : Kt ad S w w1) (h : Gw S ad ad' w1 w') : Gw S ad ad' w w' := (Gw.of k).trans h
theorem instF_pre : ∀ (n : Nat) {σ : St} {r : TR} {m : List (Nat × Nat)} {p : TR × St × List (Nat × Nat)}, instF n σ r m = some p → ∃ u, p.2.1 = σ ++ u := by
  intro n
  induction n with
  | zero => intro σ r m p h; simp [instF] at h
  | succ n ih =>
    intro σ r m p h
    simp only [instF, Option.bind_eq_some_iff] at h
    obtain ⟨r0, _, h⟩ := h
    cases r0 with
    | int => simp only [Option.some.injEq] at h; exact ⟨[], by rw [← h]; simp⟩
    | bool => simp only [Option.some.injEq] at h; exact ⟨[], by rw [← h]; simp⟩
    | nd k i =>
      simp only at h
      split at h
      · simp only [Option.some.injEq] at h; exact ⟨[], by rw [← h]; simp⟩
      · split at h
        · simp only [Option.some.injEq] at h; exact ⟨[], by rw [← h]; simp⟩
        · simp only [Option.some.injEq] at h; exact ⟨[newV], by rw [← h]⟩
      · simp only [Option.bind_eq_some_iff, Option.some.injEq] at h
        obtain ⟨p1, h1, h⟩ := h
        obtain ⟨u, hu⟩ := ih h1
        exact ⟨u ++ [⟨.ls p1.1, none⟩], by rw [← h, hu]; simp⟩
      · simp only [Option.bind_eq_some_iff, Option.some.injEq] at h
        obtain ⟨p1, h1, p2, h2, h⟩ := h
        obtain ⟨u, hu⟩ := ih h1
        obtain ⟨u2, hu2⟩ := ih h2
        exact ⟨u ++ u2 ++ [⟨.pr p1.1 p2.1, none⟩], by rw [← h, hu2, hu]; simp⟩
      · simp only [Option.bind_eq_some_iff, Option.some.injEq] at h
        obtain ⟨p1, h1, p2, h2, h⟩ := h
        obtain ⟨u, hu⟩ := ih h1
        obtain ⟨u2, hu2⟩ := ih h2
        exact ⟨u ++ u2 ++ [⟨.ar p1.1 p2.1, none⟩], by rw [← h, hu2, hu]; simp⟩
      · simp at h
theorem two_cells {C : TR → TR → NK} {tT : TypeId} (hC : ∀ ad a c o, NBk ad (C a c) .nilIface o ↔ ∃ p q, RV ad a p ∧ RV ad c q ∧ o = .cells #[.nilIface, p, q] tT (0, 0)) {w : World} {ad : List Nat} {σ : St} {x y : TR} {vx vy : Value} {i b : Nat} (hs : SX w ad σ) (hi : σ[i]? = some ⟨C x y, none⟩) (hb : ad[i]? = some b) (hvx : RV ad x vx) (hvy : RV ad y vy) : w.cell? ⟨b, 1, none⟩ = some vx ∧ w.cell? ⟨b, 2, none⟩ = some vy := by
  obtain ⟨o, ho, hn⟩ := hs.blk hi hb
  obtain ⟨p, q, h1, h2, rfl⟩ := (hC _ _ _ _).1 hn
  rw [hvx.det h1, hvy.det h2]
  exact ⟨by simp [World.cell?, ho], by simp [World.cell?, ho]⟩
theorem ins_aux (n : Nat) (ih : SIns n) {C : TR → TR → NK} {k : Kd} {tT : TypeId} (hk : ∀ a c, (C a c).kd = k) (hC : ∀ ad a c o, NBk ad (C a c) .nilIface o ↔ ∃ p q, RV ad a p ∧ RV ad c q ∧ o = .cells #[.nilIface, p, q] tT (0, 0)) {σ : St} {x y : TR} {m : List (Nat × Nat)} {p1 p2 : TR × St × List (Nat × Nat)} (h1 : instF n σ x m = some p1) (h2 : instF n p1.2.1 y p1.2.2 = some p2) {w w1 : World} {ad : List Nat} {vx vy : Value} {mb : Nat} (hs : SX w1 ad σ) (hw : WS σ) (hm : VV w1 mb ad σ m) (hk1 : Kt ad (fun q => q = mb) w w1) (hvx : RV ad x vx) (hvy : RV ad y vy) {i b : Nat} (hi : σ[i]? = some ⟨C x y, none⟩) (hb : ad[i]? = some b) :
    Calls Tryz.prog 163 #[.map (some mb), vx] w1 fun e w2 => ∃ T2 u2, e = .returned (.iface T2 u2) ∧ w2.cell? ⟨b, 1, none⟩ = some vx ∧ w2.cell? ⟨b, 2, none⟩ = some vy ∧
      Hid (Calls Tryz.prog 163 #[.map (some mb), vy] w2 fun e w3 => ∃ T3 u3, e = .returned (.iface T3 u3) ∧ w3.cell? ⟨b, 1, none⟩ = some vx ∧ w3.cell? ⟨b, 2, none⟩ = some vy ∧
        Hid (InO w mb ad (.nd k p2.2.1.length, p2.2.1 ++ [⟨C p1.1 p2.1, none⟩], p2.2.2) (.returned (.iface k.tp (.pointer (some ⟨w3.heap.size, 0, none⟩)))) (w3.alloc (.cells #[.nilIface, .iface T2 u2, .iface T3 u3] tT)))) := by
  obtain ⟨u1, hu1⟩ := instF_pre n h1
  obtain ⟨u2, hu2⟩ := instF_pre n h2
  refine (ih σ x m p1 h1 w1 ad vx mb hs hw hvx hm).mono ?_
  rintro e w2 ⟨v2, ad2, rfl, hv2, hs2, hw2, hm2, hg2⟩
  obtain ⟨T2, z2, rfl⟩ := hv2.iface
  have hb2 : ad2[i]? = some b := by
    obtain ⟨⟨u, rfl, _⟩, _⟩ := hg2
    rw [List.getElem?_append_left (List.getElem?_eq_some_iff.1 hb).1]; exact hb
  have hi2 : p1.2.1[i]? = some ⟨C x y, none⟩ := by rw [hu1]; exact st_up hi u1
  obtain ⟨c1, c2⟩ := two_cells hC hs2 hi2 hb2 (hg2.rv hvx) (hg2.rv hvy)
  refine ⟨T2, z2, rfl, c1, c2, ?_⟩
  refine (ih p1.2.1 y p1.2.2 p2 h2 w2 ad2 vy mb hs2 hw2 (hg2.rv hvy) hm2).mono ?_
  rintro e w3 ⟨v3, ad3, rfl, hv3, hs3, hw3, hm3, hg3⟩
  obtain ⟨T3, z3, rfl⟩ := hv3.iface
  have hb3 : ad3[i]? = some b := by
    obtain ⟨⟨u, rfl, _⟩, _⟩ := hg3
    rw [List.getElem?_append_left (List.getElem?_eq_some_iff.1 hb2).1]; exact hb2
  have hi3 : p2.2.1[i]? = some ⟨C x y, none⟩ := by rw [hu2]; exact st_up hi2 u2
  obtain ⟨d1, d2⟩ := two_cells hC hs3 hi3 hb3 (hg3.rv (hg2.rv hvx)) (hg3.rv (hg2.rv hvy))
  refine ⟨T3, z3, rfl, d1, d2, ?_⟩
  have hka : Kept w3 (w3.alloc (.cells #[.nilIface, .iface T2 z2, .iface T3 z3] tT)) := Kept.alloc _ _
  exact ⟨_, ad3 ++ [w3.heap.size], rfl, RV.last hs3.len k, (hs3.kept hka).add hw3 (fun z => by have := hs3.lt z; omega) (heap_alloc_new _ _) ((hC _ _ _ _).2 ⟨_, _, hg3.rv hv2, hv3, rfl⟩), hw3.add _, (hm3.kt (Kt.of_kept (ad := ad) (S := fun _ => False) hka) id).up _ _, (Gw.pre hk1 hg2).trans (hg3.trans (Gw.snoc (Kt.of_kept hka) (Nat.le_refl _)))⟩
set_option maxRecDepth 20000 in
set_option maxHeartbeats 2000000 in
theorem ins_sx : ∀ n, SIns n := by
  intro n
  induction n with
  | zero => intro σ r m p h; simp [instF] at h
  | succ n ih =>
    intro σ r m p h w ad v mb hs hw hv hm
    simp only [instF, Option.bind_eq_some_iff] at h
    obtain ⟨r0, hr, h⟩ := h
    have hr := repF_rp _ hr
    have HK : Hid _ := known_se hr w v hs hv
    have HIH : Hid _ := ih
    have HR : Hid _ := hr.root_of
    have HM : Hid _ := hm
    have HW : Hid _ := hw
    have HH : Hid _ := h
    obtain ⟨T, u, rfl⟩ := hv.iface
    have HMO : Hid (∀ {w1 w2 : World}, Kt ad (fun _ => False) w1 w2 → Kt ad (fun q => q = mb) w1 w2) := fun k => k.mono (fun _ _ z => z.elim)
    clear hs hr hv ih hm hw h
    go_enter Tryz.func163, Tryz.ntmps163
    go_wp2_with fail
    refine Calls.mono HK.out ?_
    rintro e w1 ⟨v0, rfl, hv0, hs1, hk1⟩
    have HS1 : Hid _ := hs1
    have HK1 : Hid _ := HMO.out hk1
    have HM1 : Hid _ := VV.kt HM.out hk1 id
    clear HK hs1 hk1 HM HMO
    cases r0 with
    | int =>
      rw [show v0 = _ from hv0]
      have hh := HH.out
      simp only [Option.some.injEq] at hh
      have HF : Hid (InO w mb ad p (.returned (.iface 271 (.agg #[.string { data := #[105, 110, 116] }]))) w1) := by
        rw [← hh]
        exact ⟨_, ad, rfl, rfl, HS1.out, HW.out, HM1.out, Gw.of HK1.out⟩
      have q0 := Tryz.tbBV (.agg #[.string { data := #[105, 110, 116] }]) w1
      have q1 := Tryz.tbBL (.agg #[.string { data := #[105, 110, 116] }]) w1
      have q2 := Tryz.tbBP (.agg #[.string { data := #[105, 110, 116] }]) w1
      have q3 := Tryz.taBA (.agg #[.string { data := #[105, 110, 116] }]) w1
      clear hh hv0 HIH HR
      go_wp2
      go_ret
      exact HF.out
    | bool =>
      rw [show v0 = _ from hv0]
      have hh := HH.out
      simp only [Option.some.injEq] at hh
      have HF : Hid (InO w mb ad p (.returned (.iface 271 (.agg #[.string { data := #[98, 111, 111, 108] }]))) w1) := by
        rw [← hh]
        exact ⟨_, ad, rfl, rfl, HS1.out, HW.out, HM1.out, Gw.of HK1.out⟩
      have q0 := Tryz.tbBV (.agg #[.string { data := #[98, 111, 111, 108] }]) w1
      have q1 := Tryz.tbBL (.agg #[.string { data := #[98, 111, 111, 108] }]) w1
      have q2 := Tryz.tbBP (.agg #[.string { data := #[98, 111, 111, 108] }]) w1
      have q3 := Tryz.taBA (.agg #[.string { data := #[98, 111, 111, 108] }]) w1
      clear hh hv0 HIH HR
      go_wp2
      go_ret
      exact HF.out
    | nd k i =>
      obtain ⟨nk, rfl, hi⟩ := HR.out.rt
      obtain ⟨b, hb, rfl⟩ := hv0
      have hh := HH.out
      simp only [hi] at hh
      cases nk with
      | vr nm g =>
        have FIN : Hid (∀ (c : Nat) (r' : TR) (σ' : St) (m' : List (Nat × Nat)), p = (r', σ', m') → ∀ (e : Ending) (w' : World), FvO w1 mb ad σ' r' m' e w' → ∃ c, e = .returned (.pointer (some ⟨c, 0, none⟩)) ∧ InO w mb ad p (.returned (.iface 124 (.pointer (some ⟨c, 0, none⟩)))) w') := by
          rintro _ r' σ' m' rfl e w' ⟨c, ad', e1, e2, e3, e4, e5, e6⟩
          exact ⟨c, e1, _, ad', rfl, e2, e3, e4, e5, Gw.pre HK1.out e6⟩
        have HC : Hid (Calls Tryz.prog 177 #[.map (some mb), .pointer (some ⟨b, 0, none⟩)] w1 fun e w' => ∃ c, e = .returned (.pointer (some ⟨c, 0, none⟩)) ∧ InO w mb ad p (.returned (.iface 124 (.pointer (some ⟨c, 0, none⟩)))) w') := by
          cases g with
          | false =>
            simp only [Option.some.injEq] at hh
            exact (fvar_old hi hb HS1.out HW.out HM1.out).mono (fun e w' h => FIN.out 0 _ _ _ hh.symm e w' h)
          | true =>
            simp only at hh
            split at hh
            · rename_i j hj
              simp only [Option.some.injEq] at hh
              exact (fvar_hit hi hb hj HS1.out HW.out HM1.out).mono (fun e w' h => FIN.out 0 _ _ _ hh.symm e w' h)
            · rename_i hj
              simp only [Option.some.injEq] at hh
              exact (fvar_new hi hb hj HS1.out HW.out HM1.out).mono (fun e w' h => FIN.out 0 _ _ _ hh.symm e w' h)
        have q0 := Tryz.taVV (.pointer (some ⟨b, 0, none⟩)) w1
        simp only [NK.kd, Kd.tp]
        clear hh FIN HIH HR hi hb HH
        go_wp2_with fail
        refine Calls.mono HC.out ?_
        rintro e w2 ⟨c, rfl, hF⟩
        have HF : Hid _ := hF
        clear hF HC
        go_wp2
        go_ret
        exact HF.out
      | ls x =>
        simp only [Option.bind_eq_some_iff, Option.some.injEq] at hh
        obtain ⟨p1, h1, hp⟩ := hh
        obtain ⟨o, ho, hn⟩ := SX.blk HS1.out hi hb
        obtain ⟨vx, hvx, rfl⟩ := hn
        have c1 : w1.cell? ⟨b, 1, none⟩ = some vx := by simp [World.cell?, ho]
        obtain ⟨Tx, ux, rfl⟩ := hvx.iface
        have q0 := Tryz.taLV (.pointer (some ⟨b, 0, none⟩)) w1
        have q1 := Tryz.taLL (.pointer (some ⟨b, 0, none⟩)) w1
        have HC : Hid _ := HIH.out σ x m p1 h1 w1 ad _ mb HS1.out HW.out hvx HM1.out
        have HP : Hid _ := hp
        simp only [NK.kd, Kd.tp]
        clear hi hb ho hvx h1 hp HIH HR HH
        go_wp2_with fail
        refine Calls.mono HC.out ?_
        rintro e w2 ⟨v2, ad2, rfl, hv2, hs2, hw2, hm2, hg2⟩
        obtain ⟨T2, u2, rfl⟩ := hv2.iface
        have HF : Hid (InO w mb ad p (.returned (.iface 149 (.pointer (some ⟨w2.heap.size, 0, none⟩)))) (w2.alloc (.cells #[.nilIface, .iface T2 u2] 152))) := by
          rw [← HP.out]
          have hka : Kept w2 (w2.alloc (.cells #[.nilIface, .iface T2 u2] 152)) := Kept.alloc _ _
          exact ⟨_, ad2 ++ [w2.heap.size], rfl, RV.last hs2.len .ls, (hs2.kept hka).add hw2 (fun z => by have := hs2.lt z; omega) (heap_alloc_new _ _) ⟨_, hv2, rfl⟩, hw2.add _, (hm2.kt (Kt.of_kept (ad := ad) (S := fun _ => False) hka) id).up _ _, (Gw.pre HK1.out hg2).trans (Gw.snoc (Kt.of_kept hka) (Nat.le_refl _))⟩
        clear hv2 hs2 hw2 hm2 hg2 HC
        go_wp2
        go_ret
        exact HF.out
      | pr x y =>
        simp only [Option.bind_eq_some_iff, Option.some.injEq] at hh
        obtain ⟨p1, h1, p2, h2, hp⟩ := hh
        obtain ⟨o, ho, hn⟩ := SX.blk HS1.out hi hb
        obtain ⟨vx, vy, hvx, hvy, rfl⟩ := hn
        have hkd : Kept w1 w1.drew := Kept.drew w1
        have ho' := hkd.blk ho
        have c1 : w1.drew.cell? ⟨b, 1, none⟩ = some vx := by simp [World.cell?, ho']
        have c2 : w1.drew.cell? ⟨b, 2, none⟩ = some vy := by simp [World.cell?, ho']
        obtain ⟨Tx, ux, rfl⟩ := hvx.iface
        obtain ⟨Ty, uy, rfl⟩ := hvy.iface
        have HC : Hid _ := ins_aux n HIH.out (C := .pr) (k := .pr) (tT := 156) (fun _ _ => rfl) (fun _ _ _ _ => Iff.rfl) h1 h2 (w := w) (SX.kept HS1.out hkd) HW.out (VV.kt HM1.out (Kt.of_kept (ad := ad) (S := fun _ => False) hkd) id) (HK1.out.trans (Kt.of_kept hkd)) hvx hvy hi hb
        have HP : Hid _ := hp
        have q0 := Tryz.taPV (.pointer (some ⟨b, 0, none⟩)) w1
        have q1 := Tryz.taPL (.pointer (some ⟨b, 0, none⟩)) w1
        have q2 := Tryz.taPP (.pointer (some ⟨b, 0, none⟩)) w1
        simp only [NK.kd, Kd.tp]
        clear hi hb ho hvx hvy h1 h2 hp HR HH ho' hkd HIH
        go_wp2_with fail
        go_region_held3 (fun w' => w'.cell? ⟨b, 1, none⟩ = some (.iface Tx ux) ∧ w'.cell? ⟨b, 2, none⟩ = some (.iface Ty uy)) (go_keep) (first | (go_at_call 163; refine Calls.mono HC.out ?_; rintro e w2 ⟨T2, u2, rfl, j1, j2, HD⟩; clear HC) | (go_at_call 163; refine Calls.mono HD.out ?_; rintro e w3 ⟨T3, u3, rfl, k1, k2, HF⟩; clear HD))
        all_goals
          go_wp2
          go_ret
          have hp := HP.out
          rw [← hp]
          exact HF.out
      | ar x y =>
        simp only [Option.bind_eq_some_iff, Option.some.injEq] at hh
        obtain ⟨p1, h1, p2, h2, hp⟩ := hh
        obtain ⟨o, ho, hn⟩ := SX.blk HS1.out hi hb
        obtain ⟨vx, vy, hvx, hvy, rfl⟩ := hn
        have hkd : Kept w1 w1.drew := Kept.drew w1
        have ho' := hkd.blk ho
        have c1 : w1.drew.cell? ⟨b, 1, none⟩ = some vx := by simp [World.cell?, ho']
        have c2 : w1.drew.cell? ⟨b, 2, none⟩ = some vy := by simp [World.cell?, ho']
        obtain ⟨Tx, ux, rfl⟩ := hvx.iface
        obtain ⟨Ty, uy, rfl⟩ := hvy.iface
        have HC : Hid _ := ins_aux n HIH.out (C := .ar) (k := .ar) (tT := 160) (fun _ _ => rfl) (fun _ _ _ _ => Iff.rfl) h1 h2 (w := w) (SX.kept HS1.out hkd) HW.out (VV.kt HM1.out (Kt.of_kept (ad := ad) (S := fun _ => False) hkd) id) (HK1.out.trans (Kt.of_kept hkd)) hvx hvy hi hb
        have HP : Hid _ := hp
        have q0 := Tryz.taAV (.pointer (some ⟨b, 0, none⟩)) w1
        have q1 := Tryz.taAL (.pointer (some ⟨b, 0, none⟩)) w1
        have q2 := Tryz.taAP (.pointer (some ⟨b, 0, none⟩)) w1
        have q3 := Tryz.taAA (.pointer (some ⟨b, 0, none⟩)) w1
        simp only [NK.kd, Kd.tp]
        clear hi hb ho hvx hvy h1 h2 hp HR HH ho' hkd HIH
        go_wp2_with fail
        go_region_held3 (fun w' => w'.cell? ⟨b, 1, none⟩ = some (.iface Tx ux) ∧ w'.cell? ⟨b, 2, none⟩ = some (.iface Ty uy)) (go_keep) (first | (go_at_call 163; refine Calls.mono HC.out ?_; rintro e w2 ⟨T2, u2, rfl, j1, j2, HD⟩; clear HC) | (go_at_call 163; refine Calls.mono HD.out ?_; rintro e w3 ⟨T3, u3, rfl, k1, k2, HF⟩; clear HD))
        all_goals
          go_wp2
          go_ret
          have hp := HP.out
          rw [← hp]
          exact HF.out
end Go.Proofs.YtleenphlgbklmabGreatDoor

namespace Go.Proofs.YtleenphlgbklmabGreatDoor
open Go.RowKit

theorem Tryz.eqlNN (w : World) : (binOp .eql 124 (.pointer none) (.pointer none)).run Tryz.prog w = .ok (.bool true) w := by kernel_rfl
theorem Tryz.eqlSN (a : Addr) (w : World) : (binOp .eql 124 (.pointer (some a)) (.pointer none)).run Tryz.prog w = .ok (.bool false) w := by kernel_rfl
theorem Tryz.eqlNS (a : Addr) (w : World) : (binOp .eql 124 (.pointer none) (.pointer (some a))).run Tryz.prog w = .ok (.bool false) w := by kernel_rfl
theorem eql_vars {w : World} {b c : Nat} (hb : VBk w b) (hc : VBk w c) : (binOp .eql 124 (.pointer (some ⟨b, 0, none⟩)) (.pointer (some ⟨c, 0, none⟩))).run Tryz.prog w = .ok (.bool (b == c)) w := by
  have := eq_vars w b c hb hc
  simp [binOp, this, Result.andThen]
def VKv (σ : St) (m : List (Nat × Nat)) : Prop := ∀ e, e ∈ m → ∃ nd, σ[e.2]? = some nd ∧ nd.k.kd = .vr
theorem lookF_mem {i j : Nat} : ∀ {m : List (Nat × Nat)}, lookF i m = some j → ∃ e, e ∈ m ∧ e.2 = j
  | [], h => by simp [lookF] at h
  | e :: m, h => by
    simp only [lookF] at h
    split at h
    · simp only [Option.some.injEq] at h
      exact ⟨e, by simp, h⟩
    · obtain ⟨e', h1, h2⟩ := lookF_mem h
      exact ⟨e', by simp [h1], h2⟩
theorem lookF_snoc {i a c : Nat} : ∀ {m : List (Nat × Nat)}, lookF i m = none → lookF i (m ++ [(a, c)]) = if i == a then some c else none
  | [], _ => by simp [lookF]
  | e :: m, h => by
    simp only [lookF] at h
    split at h
    · simp at h
    · rename_i hne
      simp only [List.cons_append, lookF, hne, if_false]
      exact lookF_snoc h
theorem lookF_some {i j : Nat} (x : List (Nat × Nat)) : ∀ {m : List (Nat × Nat)}, lookF i m = some j → lookF i (m ++ x) = some j
  | [], h => by simp [lookF] at h
  | e :: m, h => by
    simp only [lookF] at h
    simp only [List.cons_append, lookF]
    split at h
    · rename_i hq; simp only [hq, if_true]; exact h
    · rename_i hq; simp only [hq, if_false]; exact lookF_some x h
def PrO (w : World) (mb : Nat) (ad : List Nat) (σ : St) (p : Bool × List (Nat × Nat)) (e : Ending) (w' : World) : Prop := e = .returned (.bool p.1) ∧ SX w' ad σ ∧ VV w' mb ad σ p.2 ∧ VKv σ p.2 ∧ Kt ad (fun q => q = mb) w w'
set_option maxRecDepth 20000 in
set_option maxHeartbeats 2000000 in
theorem pair_vv {w : World} {mb : Nat} {ad : List Nat} {σ : St} {m : List (Nat × Nat)} {i j b c : Nat} {nd nd' : Nd} (hs : SX w ad σ) (hm : VV w mb ad σ m) (hv : VKv σ m) (hi : σ[i]? = some nd) (hk : nd.k.kd = .vr) (hb : ad[i]? = some b) (hj : σ[j]? = some nd') (hk' : nd'.k.kd = .vr) (hc : ad[j]? = some c) (hne : i ≠ j) : Calls Tryz.prog 200 #[.map (some mb), .pointer (some ⟨b, 0, none⟩), .pointer (some ⟨c, 0, none⟩)] w (PrO w mb ad σ (pairF i j m)) := by
  have vb := hs.vbk2 hi hk hb
  have vc := hs.vbk2 hj hk' hc
  have L1 := look_vv hm hs hi hk hb 338 Tryz.underlying338
  have L2 := look_vv hm hs hj hk' hc 338 Tryz.underlying338
  unfold pairF
  cases h1 : lookF i m with
  | some x =>
    obtain ⟨d, hd, _, hl⟩ := L1.1 x h1
    obtain ⟨e, he, hee⟩ := lookF_mem h1
    obtain ⟨nx, hx, hkx⟩ := hv e he
    rw [hee] at hx
    have vd := hs.vbk2 hx hkx hd
    have q1 := Tryz.eqlSN ⟨d, 0, none⟩ w
    have q2 := eql_vars vd vc
    have e : (d == c) = (x == j) := by
      rw [Bool.eq_iff_iff, beq_iff_eq, beq_iff_eq]
      constructor
      · intro z; subst z; exact nodup_get hs.nodup hd hc
      · intro z; subst z; rw [hd] at hc; simpa using hc
    have HF : Hid (PrO w mb ad σ (x == j, m) (.returned (.bool (x == j))) w) := ⟨rfl, hs, hm, hv, Kt.refl _ _ _⟩
    rw [e] at q2
    clear L1 L2 vb vc vd hs hm hv hi hj hx hd he e
    go_enter Tryz.func200, Tryz.ntmps200
    go_wp2
    go_ret
    exact HF.out
  | none =>
    obtain ⟨_, hl⟩ := L1.2 h1
    have q0 := Tryz.eqlNN w
    cases h2 : lookF j m with
    | some y =>
      obtain ⟨d, hd, _, hl2⟩ := L2.1 y h2
      have q1 := Tryz.eqlSN ⟨d, 0, none⟩ w
      have q2 := Tryz.eqlNS ⟨c, 0, none⟩ w
      have HF : Hid (PrO w mb ad σ (false, m) (.returned (.bool false)) w) := ⟨rfl, hs, hm, hv, Kt.refl _ _ _⟩
      clear L1 L2 vb vc hs hm hv hi hj hd
      go_enter Tryz.func200, Tryz.ntmps200
      go_wp2
      go_ret
      exact HF.out
    | none =>
      obtain ⟨_, hl2⟩ := L2.2 h2
      obtain ⟨w1, p1, s1, m1, k1⟩ := put_vv hm hs hi hk hb hc h1 338 Tryz.underlying338
      have h3 : lookF j (m ++ [(i, j)]) = none := by
        rw [lookF_snoc h2]
        simp [Ne.symm hne]
      obtain ⟨w2, p2, s2, m2, k2⟩ := put_vv m1 s1 hj hk' hc hb h3 338 Tryz.underlying338
      have h4 : lookF i ((m ++ [(i, j)]) ++ [(j, i)]) = some j := lookF_some _ (by rw [lookF_snoc h1]; simp)
      obtain ⟨d, hd2, _, hl3⟩ := (look_vv m2 s2 hi hk hb 338 Tryz.underlying338).1 j h4
      have e : d = c := by rw [hd2] at hc; simpa using hc
      subst e
      have vd := s2.vbk2 hj hk' hc
      have q2 := eql_vars vd vd
      simp only [BEq.rfl] at q2
      have HF : Hid (PrO w mb ad σ (true, m ++ [(i, j), (j, i)]) (.returned (.bool true)) w2) := by
        refine ⟨rfl, s2, ?_, ?_, k1.trans k2⟩
        · simpa using m2
        · intro e he
          simp at he
          rcases he with he | rfl | rfl
          · exact hv e he
          · exact ⟨nd', hj, hk'⟩
          · exact ⟨nd, hi, hk⟩
      clear L1 L2 vb vc hs hm hv hi hj hd2 h4 m2 s2 h3 m1 s1 k1 k2 vd
      go_enter Tryz.func200, Tryz.ntmps200
      go_wp2
      go_ret
      exact HF.out
end Go.Proofs.YtleenphlgbklmabGreatDoor

namespace Go.Proofs.YtleenphlgbklmabGreatDoor
open Go.RowKit

def SSame (n : Nat) : Prop := ∀ (σ : St) (x y : TR) (m : List (Nat × Nat)) (p : Bool × List (Nat × Nat)), sameF n σ x y m = some p → ∀ (w : World) (ad : List Nat) (v u : Value) (mb : Nat), SX w ad σ → RV ad x v → RV ad y u → VV w mb ad σ m → VKv σ m →
  Calls Tryz.prog 195 #[.map (some mb), v, u] w (PrO w mb ad σ p)
theorem PrO.pre {w w1 w' : World} {mb : Nat} {ad : List Nat} {σ : St} {p : Bool × List (Nat × Nat)} {e : Ending} (k : Kt ad (fun q => q = mb) w w1) (h : PrO w1 mb ad σ p e w') : PrO w mb ad σ p e w' := ⟨h.1, h.2.1, h.2.2.1, h.2.2.2.1, k.trans h.2.2.2.2⟩
theorem genB_some {σ : St} {i : Nat} {g : Bool} (h : genB σ i = some g) : ∃ nm, σ[i]? = some ⟨.vr nm g, none⟩ := by
  simp only [genB] at h
  split at h
  · rename_i nm g' hi
    simp only [Option.some.injEq] at h
    subst h
    exact ⟨nm, hi⟩
  · simp at h
set_option maxRecDepth 20000 in
set_option maxHeartbeats 4000000 in
theorem same_sx : ∀ n, SSame n := by
  intro n
  induction n with
  | zero => intro σ x y m p h; simp [sameF] at h
  | succ n ih =>
    rintro σ x y m ⟨pb, pm⟩ h w ad v u mb hs hv hu hm hvk
    simp only [sameF, Option.bind_eq_some_iff] at h
    obtain ⟨x0, hx, y0, hy, h⟩ := h
    have hx := repF_rp _ hx
    have hy := repF_rp _ hy
    have HKX : Hid _ := known_se hx w v hs hv
    have HKY : Hid _ := fun (w1 : World) (h1 : SX w1 ad σ) => known_se hy w1 u h1 hu
    have HRX : Hid _ := hx.root_of
    have HRY : Hid _ := hy.root_of
    have HM : Hid _ := hm
    have HVK : Hid _ := hvk
    have HIH : Hid _ := ih
    obtain ⟨T, z, rfl⟩ := hv.iface
    obtain ⟨T', z', rfl⟩ := hu.iface
    have HMO : Hid (∀ {w1 w2 : World}, Kt ad (fun _ => False) w1 w2 → Kt ad (fun q => q = mb) w1 w2) := fun k => k.mono (fun _ _ z => z.elim)
    clear hs hv hu hx hy ih hm hvk
    go_enter Tryz.func195, Tryz.ntmps195
    go_wp2_with fail
    refine Calls.mono HKX.out ?_
    rintro e w1 ⟨v0, rfl, hv0, hs1, hk1⟩
    have HC : Hid _ := HKY.out w1 hs1
    have HV0 : Hid _ := hv0
    have HK1 : Hid _ := hk1
    obtain ⟨T0, z0, rfl⟩ := hv0.iface
    clear hv0 hs1 hk1 HKX HKY
    go_wp2_with fail
    refine Calls.mono HC.out ?_
    rintro e w2 ⟨u0, rfl, hu0, hs2, hk2⟩
    have HU0 : Hid _ := hu0
    have HS2 : Hid _ := hs2
    have HK2 : Hid _ := HMO.out (HK1.out.trans hk2)
    have HM2 : Hid _ := VV.kt HM.out (HK1.out.trans hk2) id
    have heq := eql_tr hs2 HV0.out hu0
    obtain ⟨T1, z1, rfl⟩ := hu0.iface
    clear hu0 hs2 hk2 HC HK1 HM
    have HT : Hid (∀ b, (pb, pm) = (b, m) → PrO w mb ad σ (pb, pm) (.returned (.bool b)) w2) := fun b e => by
      rw [e]
      exact ⟨rfl, HS2.out, HM2.out, HVK.out, HK2.out⟩
    split at h
    · rename_i hb
      simp only [Option.some.injEq] at h
      rw [hb] at heq
      have HF : Hid _ := HT.out true h.symm
      clear h
      go_wp2
      go_ret
      exact HF.out
    · rename_i hb
      have hb : x0.eqb y0 = false := by simpa using hb
      rw [hb] at heq
      split at h
      · rename_i i hi
        obtain ⟨b, hbi, hve, hxe, hta⟩ := ta_var HV0.out hi
        have hta := hta w2
        split at h
        · rename_i hj
          obtain ⟨q, htb⟩ := ta_not HU0.out hj
          have htb := htb w2
          simp only [Option.some.injEq] at h
          have HF : Hid _ := HT.out false h.symm
          clear h hve hxe hbi hi hj hb
          go_wp2
          go_ret
          exact HF.out
        · rename_i j hj
          obtain ⟨c, hcj, hue, hye, htb⟩ := ta_var HU0.out hj
          have htb := htb w2
          simp only [Option.bind_eq_some_iff] at h
          obtain ⟨gi, hgi, h⟩ := h
          obtain ⟨nm, hni⟩ := genB_some hgi
          have c1 := SX.vcell HS2.out hni hbi
          split at h
          · rename_i hg
            rw [hg] at c1
            simp only [Option.bind_eq_some_iff] at h
            obtain ⟨gj, hgj, h⟩ := h
            obtain ⟨nm', hnj⟩ := genB_some hgj
            have c2 := SX.vcell HS2.out hnj hcj
            split at h
            · rename_i hg2
              rw [hg2] at c2
              simp only [Option.some.injEq] at h
              have hne : i ≠ j := fun z => by
                subst z
                rw [hxe, hye] at hb
                rw [TR.eqb_ff] at hb
                exact hb rfl
              have HC : Hid _ := pair_vv HS2.out HM2.out HVK.out hni rfl hbi hnj rfl hcj hne
              rw [h] at HC
              clear h hve hxe hbi hi hj hb hue hye hcj hni hnj hgi hgj hg hg2 hne
              go_wp2_with fail
              refine Calls.mono HC.out ?_
              rintro e w3 ⟨rfl, hE⟩
              have HF : Hid (PrO w mb ad σ (pb, pm) (.returned (.bool pb)) w3) := PrO.pre HK2.out ⟨rfl, hE⟩
              clear HC hE
              go_wp2
              go_ret
              exact HF.out
            · rename_i hg2
              have hg2 : gj = false := by simpa using hg2
              rw [hg2] at c2
              simp only [Option.some.injEq] at h
              have HF : Hid _ := HT.out false h.symm
              clear h hve hxe hbi hi hj hb hue hye hcj hni hnj hgi hgj hg hg2
              go_wp2
              go_ret
              exact HF.out
          · rename_i hg
            have hg : gi = false := by simpa using hg
            rw [hg] at c1
            simp only [Option.some.injEq] at h
            have HF : Hid _ := HT.out false h.symm
            clear h hve hxe hbi hi hj hb hue hye hcj hni hgi hg
            go_wp2
            go_ret
            exact HF.out
      · rename_i hi
        obtain ⟨q, hta⟩ := ta_not HV0.out hi
        have hta := hta w2
        have HA : Hid _ := alike_tr HV0.out HU0.out hi w2
        clear hi hb
        go_wp2_with fail
        refine Calls.mono HA.out ?_
        rintro e w' ⟨rfl, hww⟩
        rw [hww]
        clear hww w' HA
        split at h
        · rename_i hal
          rw [hal]
          simp only [Option.bind_eq_some_iff] at h
          obtain ⟨os, hos, ks, hks, h⟩ := h
          split at h
          · rename_i a c
            obtain ⟨Ty, uy, fy, rvy, T5, u5, ey, hmy, hcfy, hy1, HBY⟩ := below1 HS2.out HRY.out HU0.out hos
            simp only [Value.iface.injEq] at ey
            obtain ⟨rfl, rfl⟩ := ey
            have HBY : Hid _ := HBY
            have HY1 : Hid _ := hy1
            have HKS : Hid _ := hks
            clear hos hy1 hal hks
            go_wp2_with fail
            refine Calls.mono HBY.out ?_
            rintro e w3 ⟨g, rfl, hg1, hbl, hk3⟩
            have HS3 : Hid _ := SX.kept HS2.out hk3
            have HK3 : Hid _ := hk3
            clear HBY hk3 hmy hcfy hg1
            obtain ⟨Tx, ux, fx, rvx, T2, u2, ex, hmx, hcfx, hx1, HBX⟩ := below1 HS3.out HRX.out HV0.out HKS.out
            simp only [Value.iface.injEq] at ex
            obtain ⟨rfl, rfl⟩ := ex
            have HBX : Hid _ := HBX
            have HX1 : Hid _ := hx1
            have HBL : Hid _ := hbl
            clear hx1 HKS hbl
            go_wp2_with fail
            refine Calls.mono HBX.out ?_
            rintro e w4 ⟨g2, rfl, hg2, hbl2, hk4⟩
            have hblY := hk4.blk HBL.out
            have hkk := HK3.out.trans hk4
            have HC : Hid _ := HIH.out σ a c m (pb, pm) h w4 ad _ _ mb (SX.kept HS3.out hk4) HX1.out HY1.out (VV.kt HM2.out (Kt.of_kept (ad := ad) (S := fun _ => False) hkk) id) HVK.out
            have HK4 : Hid _ := HK2.out.trans (Kt.of_kept hkk)
            clear HBX hk4 hmx hcfx hg2 h HIH hkk
            have d0 : w4.cell? ⟨g, 0, none⟩ = some (.iface T5 u5) := by simp [World.cell?, hblY]
            have d1 : w4.cell? ⟨g2, 0, none⟩ = some (.iface T2 u2) := by simp [World.cell?, hbl2]
            clear hblY hbl2
            go_wp2_with fail
            refine wp_loop_rounds 2 ?_
            rw [rounds_succ]
            go_wp2_with fail
            refine Calls.mono HC.out ?_
            rintro e w5 ⟨rfl, hE⟩
            have HF : Hid (PrO w mb ad σ (pb, pm) (.returned (.bool pb)) w5) := PrO.pre HK4.out ⟨rfl, hE⟩
            clear HC hE HT
            cases pb with
            | true =>
              go_wp2
              rw [rounds_succ]
              go_wp2
              go_ret
              exact HF.out
            | false =>
              go_wp2
              go_ret
              exact HF.out
          · rename_i a b c d
            simp only [Option.bind_eq_some_iff] at h
            obtain ⟨⟨b1, m1⟩, h1, h⟩ := h
            obtain ⟨Ty, uy, fy, rvy, T5, u5, T6, u6, ey, hmy, hcfy, hy1, hy2, HBY⟩ := below2 HS2.out HRY.out HU0.out hos
            simp only [Value.iface.injEq] at ey
            obtain ⟨rfl, rfl⟩ := ey
            have HBY : Hid _ := HBY
            have HY1 : Hid _ := hy1
            have HY2 : Hid _ := hy2
            have HKS : Hid _ := hks
            have HH : Hid _ := h
            have HH1 : Hid _ := h1
            clear hos hy1 hal hks hy2 h h1
            go_wp2_with fail
            refine Calls.mono HBY.out ?_
            rintro e w3 ⟨g, rfl, hg1, hbl, hk3⟩
            have HS3 : Hid _ := SX.kept HS2.out hk3
            have HK3 : Hid _ := hk3
            have HGM : Hid (mb < w2.heap.size) := by
              obtain ⟨l, hl, _⟩ := HM2.out
              exact lt_of_block hl
            have HG1 : Hid (¬ g = mb) := fun z => by have := HGM.out; have := hg1; omega
            clear HBY hk3 hmy hcfy hg1
            obtain ⟨Tx, ux, fx, rvx, T2, u2, T4, u4, ex, hmx, hcfx, hx1, hx2, HBX⟩ := below2 HS3.out HRX.out HV0.out HKS.out
            simp only [Value.iface.injEq] at ex
            obtain ⟨rfl, rfl⟩ := ex
            have HBX : Hid _ := HBX
            have HX1 : Hid _ := hx1
            have HX2 : Hid _ := hx2
            have HBL : Hid _ := hbl
            clear hx1 HKS hbl hx2
            go_wp2_with fail
            refine Calls.mono HBX.out ?_
            rintro e w4 ⟨g2, rfl, hg2, hbl2, hk4⟩
            have hblY := hk4.blk HBL.out
            have hkk := HK3.out.trans hk4
            have HG2 : Hid (¬ g2 = mb) := fun z => by have := HGM.out; have := HK3.out.size; have := hg2; omega
            have HC : Hid _ := HIH.out σ a c m (b1, m1) HH1.out w4 ad _ _ mb (SX.kept HS3.out hk4) HX1.out HY1.out (VV.kt HM2.out (Kt.of_kept (ad := ad) (S := fun _ => False) hkk) id) HVK.out
            have HK4 : Hid _ := HK2.out.trans (Kt.of_kept hkk)
            clear HBX hk4 hmx hcfx hg2 hkk
            have d0 : w4.cell? ⟨g, 0, none⟩ = some (.iface T5 u5) := by simp [World.cell?, hblY]
            have d1 : w4.cell? ⟨g2, 0, none⟩ = some (.iface T2 u2) := by simp [World.cell?, hbl2]
            have HBY : Hid _ := hblY
            have HBX : Hid _ := hbl2
            clear hblY hbl2
            go_wp2_with fail
            refine wp_loop_rounds 3 ?_
            rw [rounds_succ]
            go_wp2_with fail
            refine Calls.mono HC.out ?_
            intro e w5 hE
            obtain ⟨rfl, hs5, hm5, hv5, hk45⟩ := hE
            have hk5 := HK4.out.trans hk45
            have HE5 : Hid (PrO w mb ad σ (b1, m1) (.returned (.bool b1)) w5) := ⟨rfl, hs5, hm5, hv5, hk5⟩
            have HK5 : Hid _ := hk5
            have hbY := hk45.typs HBY.out HG1.out
            have hbX := hk45.typs HBX.out HG2.out
            have d2 : w5.cell? ⟨g, 1, none⟩ = some (.iface T6 u6) := by simp [World.cell?, hbY]
            have d3 : w5.cell? ⟨g2, 1, none⟩ = some (.iface T4 u4) := by simp [World.cell?, hbX]
            clear HC hbY hbX hk45 hk5
            cases b1 with
            | false =>
              have hh := HH.out
              simp only [Bool.false_eq_true, if_false, Option.some.injEq] at hh
              have HF : Hid (PrO w mb ad σ (pb, pm) (.returned (.bool false)) w5) := by
                rw [← hh]
                exact HE5.out
              clear hh hs5 hm5 hv5
              go_wp2
              go_ret
              exact HF.out
            | true =>
              have hh := HH.out
              simp only [if_true] at hh
              have HC : Hid _ := HIH.out σ b d m1 (pb, pm) hh w5 ad _ _ mb hs5 HX2.out HY2.out hm5 hv5
              clear hh hs5 hm5 hv5 HIH
              go_wp2_with fail
              rw [rounds_succ]
              go_wp2_with fail
              refine Calls.mono HC.out ?_
              rintro e w6 ⟨rfl, hE⟩
              have HF : Hid (PrO w mb ad σ (pb, pm) (.returned (.bool pb)) w6) := PrO.pre HK5.out ⟨rfl, hE⟩
              clear HC hE HT HH
              cases pb with
              | true =>
                go_wp2
                rw [rounds_succ]
                go_wp2
                go_ret
                exact HF.out
              | false =>
                go_wp2
                go_ret
                exact HF.out
          · simp at h
        · rename_i hal
          have hal : alkF x0 y0 = false := by simpa using hal
          simp only [Option.some.injEq] at h
          rw [hal]
          have HF : Hid _ := HT.out false h.symm
          clear h hal
          go_wp2
          go_ret
          exact HF.out
end Go.Proofs.YtleenphlgbklmabGreatDoor
