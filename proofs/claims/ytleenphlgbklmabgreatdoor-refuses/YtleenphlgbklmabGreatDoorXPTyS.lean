import Derived.Test.YtleenphlgbklmabGreatDoorXPGa
import Derived.Test.YtleenphlgbklmabGreatDoorXPSt
import Derived.Test.YtleenphlgbklmabGreatDoorXTxC
set_option linter.unusedVariables false
set_option linter.unusedSimpArgs false
namespace Go.Proofs.YtleenphlgbklmabGreatDoor
open Go.RowKit

theorem Tryz.mkPS (w : World) : (Instr.makeMap 232 none).run Tryz.prog w = .ok (.map (some w.heap.size)) (w.alloc (.map #[] 0)) := by kernel_rfl
theorem TMp.none (w : World) (ad : List Nat) : TMp (w.alloc (.map #[] 0)) w.heap.size ad (pvP []) := ⟨heap_alloc_new _ _, by simp [pvP]⟩
end Go.Proofs.YtleenphlgbklmabGreatDoor

namespace Go.Proofs.YtleenphlgbklmabGreatDoor
open Go.RowKit

/-- a map of variables to variables, by their blocks. -/
def vE : List (Nat × Nat) → Nat → List MapEntry
  | [], _ => []
  | e :: l, i => { key := .pointer (some ⟨e.1, 0, none⟩), val := .pointer (some ⟨e.2, 0, none⟩), born := i } :: vE l (i + 1)
end Go.Proofs.YtleenphlgbklmabGreatDoor

namespace Go.Proofs.YtleenphlgbklmabGreatDoor
open Go.RowKit

/-- a node's block was changed. -/
theorem SW.upd {w w' : World} {ad : List Nat} {τ : St} (h : SW w ad τ) {i b : Nat} {x : Nd} {nk : NK} {s : Option TR} {sv : Value} {o : Obj} (hi : τ[i]? = some x) (hb : ad[i]? = some b) (ho : w'.heap[b]? = some o) (hv : SV ad s sv) (hn : NBk ad nk sv o) (hk : ∀ q, q ≠ b → w'.heap[q]? = w.heap[q]?) : SW w' ad (τ.set i ⟨nk, s⟩) := by
  refine ⟨by simp [h.len], h.inj, ?_⟩
  intro j mk s' c hj hc
  by_cases e : i = j
  · subst e
    rw [hb] at hc
    simp at hc
    subst hc
    have hlt := (List.getElem?_eq_some_iff.1 hi).1
    simp [hlt] at hj
    obtain ⟨rfl, rfl⟩ := hj
    exact ⟨sv, o, ho, hv, hn⟩
  · rw [List.getElem?_set_ne e] at hj
    obtain ⟨sv', o', h3, h4, h5⟩ := h.blk j mk s' c hj hc
    exact ⟨sv', o', (hk c (fun z => e (nodup_get h.inj hb (z ▸ hc)))).trans h3, h4, h5⟩
theorem SX.mark {w : World} {ad : List Nat} {σ : St} (hs : SX w ad σ) {i b : Nat} {nm : ByteArray} {g : Bool} (hi : σ[i]? = some ⟨.vr nm g, none⟩) (hb : ad[i]? = some b) :
    (∃ x, w.frozen? ⟨b, 2, none⟩ = false ∧ w.cell? ⟨b, 2, none⟩ = some x) ∧ SX (w.setCell ⟨b, 2, none⟩ (.bool true)) ad (σ.set i ⟨.vr nm true, none⟩) ∧ Kt ad (fun _ => False) w (w.setCell ⟨b, 2, none⟩ (.bool true)) := by
  obtain ⟨o, ho, hn⟩ := hs.blk hi hb
  have ht := hn.tb
  have ho' := ho
  rw [show o = _ from hn] at ho
  obtain ⟨τ, h1, h2⟩ := hs
  refine ⟨⟨_, by simp [World.frozen?, ho], by simp [World.cell?, ho]; rfl⟩, ⟨_, h1.upd (nk := .vr nm true) (h2.root hi) hb (o := .cells #[.nilIface, .string nm, .bool true] 148 (0, 0)) ?_ (s := none) (sv := .nilIface) rfl rfl (fun q hq => Below.heap_setCell _ _ _ q hq), h2.mark (nk := .vr nm g) (nk' := .vr nm true) rfl hi⟩, Kt.setT ho' ht (List.mem_of_getElem? hb) _ _⟩
  simp [World.setCell, ho, Array.getElem?_modify]
def SGen (n : Nat) : Prop := ∀ (σ σ' : St) (r : TR) (bd : List TR), genF n σ r bd = some σ' → ∀ (w : World) (ad : List Nat) (v : Value) (mb : Nat), SX w ad σ → RV ad r v → TMp w mb ad (pvP bd) →
  Calls Tryz.prog 102 #[v, .map (some mb)] w fun e w' => e = .returned (.tuple #[]) ∧ SX w' ad σ' ∧ TMp w' mb ad (pvP bd) ∧ Kt ad (fun _ => False) w w'
theorem mark_root {σ : St} {i : Nat} {k : Kd} (hr : Rp σ (.nd .vr i) (.nd k i)) : ∃ nm g, σ[i]? = some ⟨.vr nm g, none⟩ ∧ markF σ (.nd .vr i) = σ.set i ⟨.vr nm true, none⟩ ∧ Rp (σ.set i ⟨.vr nm true, none⟩) (.nd .vr i) (.nd .vr i) ∧ kidsF (σ.set i ⟨.vr nm true, none⟩) (.nd .vr i) = some [] := by
  obtain ⟨nk, hk, hi⟩ := hr.rt
  obtain ⟨nk2, s, hk2, hi2⟩ := rp_nd hr
  rw [hi] at hi2
  simp only [Option.some.injEq, Nd.mk.injEq] at hi2
  obtain ⟨rfl, rfl⟩ := hi2
  cases nk with
  | vr nm g =>
    have hl := (List.getElem?_eq_some_iff.1 hi).1
    have e : (σ.set i ⟨.vr nm true, none⟩)[i]? = some ⟨.vr nm true, none⟩ := by rw [List.getElem?_set_self hl]
    exact ⟨nm, g, hi, by simp [markF, hi], Rp.root i (.vr nm true) e, by simp only [kidsF, e]⟩
  | ls x => cases hk2
  | pr x y => cases hk2
  | ar x y => cases hk2
set_option maxRecDepth 20000 in
set_option maxHeartbeats 2000000 in
theorem gen_sx : ∀ n, SGen n := by
  intro n
  induction n with
  | zero => intro σ σ' r bd h; simp [genF] at h
  | succ n ih =>
    intro σ σ' r bd h w ad v mb hs hv hm
    simp only [genF, Option.bind_eq_some_iff] at h
    obtain ⟨r0, hr, h⟩ := h
    have hr := repF_rp _ hr
    have HK : Hid _ := known_se hr w v hs hv
    have HIH : Hid (∀ (σ σ' : St) (r : TR), genF n σ r bd = some σ' → ∀ (w : World) (v : Value), SX w ad σ → RV ad r v → TMp w mb ad (pvP bd) → Calls Tryz.prog 102 #[v, .map (some mb)] w fun e w' => e = .returned (.tuple #[]) ∧ SX w' ad σ' ∧ TMp w' mb ad (pvP bd) ∧ Kt ad (fun _ => False) w w') := fun σ σ' r h w v => ih σ σ' r bd h w ad v mb
    have HR : Hid _ := hr.root_of
    have HM : Hid _ := hm
    obtain ⟨T, u, rfl⟩ := hv.iface
    clear hs hr hv ih hm
    go_enter Tryz.func102, Tryz.ntmps102
    go_wp2_with fail
    refine Calls.mono HK.out ?_
    rintro e w1 ⟨v0, rfl, hv0, hs1, hk1⟩
    clear HK
    have HS1 : Hid _ := hs1
    have HK1 : Hid _ := hk1
    have hm1 := HM.out.kt hk1 id
    have HM1 : Hid _ := hm1
    have HH : Hid _ := has_ps hs1 hv0 hm1
    have HV0 : Hid _ := hv0
    obtain ⟨T0, u0, rfl⟩ := hv0.iface
    clear hs1 hk1 hm1 hv0 HM
    go_wp2_with fail
    refine Calls.mono HH.out ?_
    rintro e w2 ⟨rfl, hkh⟩
    have HS2 : Hid _ := SX.kept HS1.out hkh
    have HM2 : Hid _ := HM1.out.keptP hkh
    have HK2 : Hid _ := HK1.out.trans (Kt.of_kept hkh)
    clear HH hkh HS1 HM1 HK1
    split at h
    · rename_i hb
      simp only [Option.some.injEq] at h
      subst h
      rw [hb]
      go_wp2
      exact bodyPost_ret (results_none Tryz.results102 _ _ _) rfl ⟨rfl, HS2.out, HM2.out, HK2.out⟩
    · rename_i hb
      have hb : memT r0 bd = false := by simpa using hb
      rw [hb]
      split at h
      · rename_i i hi
        obtain ⟨b, hbi, hve, hre, hta⟩ := ta_var HV0.out hi
        have hta := hta w2
        simp only [Option.some.injEq] at h
        subst h
        have hrr := HR.out
        rw [hre] at hrr
        obtain ⟨nm, gg, hi, hmk, hrt, hkk⟩ := mark_root hrr
        obtain ⟨⟨x, hx1, hx2⟩, hx3, hx4⟩ := SX.mark HS2.out hi hbi
        rw [← hmk, ← hre] at hx3
        have HX3 : Hid _ := hx3
        have HX4 : Hid _ := HK2.out.trans hx4
        have HX5 : Hid _ := HM2.out.kt hx4 id
        obtain ⟨T9, u9, f, rv, e9, hm, hcf, HB⟩ := below0 (w := w2.setCell ⟨b, 2, none⟩ (.bool true)) hrt (hre ▸ HV0.out) hkk
        simp only [Value.iface.injEq] at e9
        obtain ⟨rfl, rfl⟩ := e9
        have HB : Hid _ := HB
        clear hx3 hx4 hkk hrt hmk hi hbi hb hve hre HR HIH hrr
        go_wp2_with fail
        refine Calls.mono HB.out ?_
        rintro e w3 ⟨rfl, hk3⟩
        have HF : Hid _ := And.intro (SX.kept HX3.out hk3) (And.intro (HX5.out.keptP hk3) (HX4.out.trans (Kt.of_kept hk3)))
        clear hk3 HB hm hcf
        go_wp2
        refine wp_loop_rounds 1 ?_
        rw [rounds_succ]
        go_wp2
        exact bodyPost_end (results_none Tryz.results102 _ _ _) rfl ⟨rfl, HF.out⟩
      · rename_i hi
        obtain ⟨p, hta⟩ := ta_not HV0.out hi
        have hta := hta w2
        simp only [Option.bind_eq_some_iff] at h
        obtain ⟨ks, hk, h⟩ := h
        clear hi hb
        split at h
        · simp only [Option.some.injEq] at h
          subst h
          obtain ⟨T9, u9, f, rv, e9, hm, hcf, HB⟩ := below0 (w := w2) HR.out HV0.out hk
          simp only [Value.iface.injEq] at e9
          obtain ⟨rfl, rfl⟩ := e9
          have HB : Hid _ := HB
          clear HIH HR hk
          go_wp2_with fail
          refine Calls.mono HB.out ?_
          rintro e w3 ⟨rfl, hk3⟩
          have HF : Hid _ := And.intro (SX.kept HS2.out hk3) (And.intro (HM2.out.keptP hk3) (HK2.out.trans (Kt.of_kept hk3)))
          clear hk3 HB hm hcf
          go_wp2
          refine wp_loop_rounds 1 ?_
          rw [rounds_succ]
          go_wp2
          exact bodyPost_end (results_none Tryz.results102 _ _ _) rfl ⟨rfl, HF.out⟩
        · rename_i x
          obtain ⟨T9, u9, f, rv, T1, u1, e9, hm, hcf, hx, HB⟩ := below1 HS2.out HR.out HV0.out hk
          simp only [Value.iface.injEq] at e9
          obtain ⟨rfl, rfl⟩ := e9
          have HB : Hid _ := HB
          have HX : Hid _ := hx
          have HC : Hid _ := HIH.out _ _ x h
          clear HR hk hx h HIH
          go_wp2_with fail
          refine Calls.mono HB.out ?_
          rintro e w3 ⟨g, rfl, hg, hbl, hk3⟩
          have HC : Hid _ := HC.out w3 _ (SX.kept HS2.out hk3) HX.out (HM2.out.keptP hk3)
          have HK3 : Hid _ := HK2.out.trans (Kt.of_kept hk3)
          clear hk3 HB hm hcf
          have d0 : w3.cell? ⟨g, 0, none⟩ = some (.iface T1 u1) := by simp [World.cell?, hbl]
          clear hbl hg
          go_wp2_with fail
          refine wp_loop_rounds 2 ?_
          rw [rounds_succ]
          go_wp2_with fail
          refine Calls.mono HC.out ?_
          rintro e w4 ⟨rfl, hs4, hm4, hk4⟩
          have HF : Hid _ := And.intro hs4 (And.intro hm4 (HK3.out.trans hk4))
          clear hs4 hk4 hm4 HC
          go_wp2
          rw [rounds_succ]
          go_wp2
          exact bodyPost_end (results_none Tryz.results102 _ _ _) rfl ⟨rfl, HF.out⟩
        · rename_i x y
          simp only [Option.bind_eq_some_iff] at h
          obtain ⟨σ1, h1, h⟩ := h
          obtain ⟨T9, u9, f, rv, T1, u1, T2, u2, e9, hm, hcf, hx, hy, HB⟩ := below2 HS2.out HR.out HV0.out hk
          simp only [Value.iface.injEq] at e9
          obtain ⟨rfl, rfl⟩ := e9
          have HB : Hid _ := HB
          have HX : Hid _ := hx
          have HY : Hid _ := hy
          have HC : Hid _ := HIH.out _ _ x h1
          have HD : Hid _ := HIH.out _ _ y h
          clear HR hk hx hy h h1 HIH
          go_wp2_with fail
          refine Calls.mono HB.out ?_
          rintro e w3 ⟨g, rfl, hg, hbl, hk3⟩
          have HC : Hid _ := HC.out w3 _ (SX.kept HS2.out hk3) HX.out (HM2.out.keptP hk3)
          have HK3 : Hid _ := HK2.out.trans (Kt.of_kept hk3)
          clear hk3 HB hm hcf
          have d0 : w3.cell? ⟨g, 0, none⟩ = some (.iface T1 u1) := by simp [World.cell?, hbl]
          have HBL : Hid _ := hbl
          clear hbl hg
          go_wp2_with fail
          refine wp_loop_rounds 3 ?_
          rw [rounds_succ]
          go_wp2_with fail
          refine Calls.mono HC.out ?_
          rintro e w4 ⟨rfl, hs4, hm4, hk4⟩
          have hbl4 := hk4.typs HBL.out (fun z => z)
          have d1 : w4.cell? ⟨g, 1, none⟩ = some (.iface T2 u2) := by simp [World.cell?, hbl4]
          have HD : Hid _ := HD.out w4 _ hs4 HY.out hm4
          have HK4 : Hid _ := HK3.out.trans hk4
          clear hs4 hk4 hm4 HC hbl4
          go_wp2_with fail
          rw [rounds_succ]
          go_wp2_with fail
          refine Calls.mono HD.out ?_
          rintro e w5 ⟨rfl, hs5, hm5, hk5⟩
          have HF : Hid _ := And.intro hs5 (And.intro hm5 (HK4.out.trans hk5))
          clear hs5 hk5 hm5 HD
          go_wp2
          rw [rounds_succ]
          go_wp2
          exact bodyPost_end (results_none Tryz.results102 _ _ _) rfl ⟨rfl, HF.out⟩
        · simp at h
end Go.Proofs.YtleenphlgbklmabGreatDoor

namespace Go.Proofs.YtleenphlgbklmabGreatDoor
open Go.RowKit

def RIn (n : Nat) : TR → Prop
  | .nd _ i => i < n
  | _ => True
/-- the ways lead to nodes of the store. -/
def WS (σ : St) : Prop := ∀ (i : Nat) (nk : NK) (r : TR), σ[i]? = some ⟨nk, some r⟩ → RIn σ.length r
end Go.Proofs.YtleenphlgbklmabGreatDoor

namespace Go.Proofs.YtleenphlgbklmabGreatDoor
open Go.RowKit
theorem VM.vblk {w : World} {mb : Nat} {names : List ByteArray} {vb : List Nat} (h : VM w mb names vb) : ∀ c, c ∈ vb → VBlk w c := by
  intro c hc
  obtain ⟨j, hj, rfl⟩ := List.getElem_of_mem hc
  have := h.vr j (h.len ▸ hj)
  have e : vb.getD j 0 = vb[j] := by simp [List.getD, hj]
  rw [e] at this
  exact ⟨_, this⟩
/-- the variables' blocks, with their names. -/
def NB (w : World) (vb : List Nat) (names : List ByteArray) : Prop := vb.length = names.length ∧ ∀ j, j < names.length → w.heap[vb.getD j 0]? = some (.cells #[.nilIface, .string (names.getD j { data := #[] }), .bool false] 148 (0, 0))
theorem VM.nodup {w : World} {mb : Nat} {names : List ByteArray} {vb : List Nat} (h : VM w mb names vb) (hn : names.Nodup) : vb.Nodup := by
  refine List.pairwise_iff_getElem.2 ?_
  intro i j hi hj hij e
  have h1 := h.vr i (h.len ▸ hi)
  have h2 := h.vr j (h.len ▸ hj)
  have e1 : vb.getD i 0 = vb[i] := by simp [List.getD, hi]
  have e2 : vb.getD j 0 = vb[j] := by simp [List.getD, hj]
  rw [e1, e] at h1
  have hi' : i < names.length := h.len ▸ hi
  have hj' : j < names.length := h.len ▸ hj
  have g1 : names.getD i { data := #[] } = names[i] := by simp [List.getD, hi']
  have g2 : names.getD j { data := #[] } = names[j] := by simp [List.getD, hj']
  rw [e2] at h2
  rw [h2, g1, g2] at h1
  simp at h1
  exact (List.pairwise_iff_getElem.1 hn) i j hi' hj' hij h1.symm
end Go.Proofs.YtleenphlgbklmabGreatDoor

namespace Go.Proofs.YtleenphlgbklmabGreatDoor
open Go.RowKit

/-- the variables of a type that was read. -/
def vrs (names : List ByteArray) : St := names.map fun n => ⟨.vr n false, none⟩
/-- a type that was read, as nodes behind those of the store: what it is, and the nodes. -/
def addT (vs : Nat) : Ty → St → TR × St
  | .mk kd n kids, σ =>
    if kd.data.toList == [] then (.nd .vr (vs + n), σ)
    else if kd.data.toList == ({ data := #[105, 110, 116] } : ByteArray).data.toList then (.int, σ)
    else if kd.data.toList == ({ data := #[98, 111, 111, 108] } : ByteArray).data.toList then (.bool, σ)
    else match kids with
      | [a] =>
        let p := addT vs a σ
        (.nd .ls p.2.length, p.2 ++ [⟨.ls p.1, none⟩])
      | [a, c] =>
        let p := addT vs a σ
        let q := addT vs c p.2
        if kd.data.toList == ({ data := #[112, 97, 105, 114] } : ByteArray).data.toList then (.nd .pr q.2.length, q.2 ++ [⟨.pr p.1 q.1, none⟩]) else (.nd .ar q.2.length, q.2 ++ [⟨.ar p.1 q.1, none⟩])
      | _ => (.int, σ)
theorem addT_var (vs n : Nat) (σ : St) : addT vs (.mk { data := #[] } n []) σ = (.nd .vr (vs + n), σ) := by simp [addT]
theorem addT_int (vs : Nat) (σ : St) : addT vs (.mk { data := #[105, 110, 116] } 0 []) σ = (.int, σ) := by simp [addT]
theorem addT_bool (vs : Nat) (σ : St) : addT vs (.mk { data := #[98, 111, 111, 108] } 0 []) σ = (.bool, σ) := by simp [addT]
theorem addT_list (vs : Nat) (a : Ty) (σ : St) : addT vs (.mk { data := #[108, 105, 115, 116] } 0 [a]) σ = (.nd .ls (addT vs a σ).2.length, (addT vs a σ).2 ++ [⟨.ls (addT vs a σ).1, none⟩]) := by rw [addT]; simp
theorem addT_pair (vs : Nat) (a c : Ty) (σ : St) : addT vs (.mk { data := #[112, 97, 105, 114] } 0 [a, c]) σ = (.nd .pr (addT vs c (addT vs a σ).2).2.length, (addT vs c (addT vs a σ).2).2 ++ [⟨.pr (addT vs a σ).1 (addT vs c (addT vs a σ).2).1, none⟩]) := by rw [addT]; simp
theorem addT_fn (vs : Nat) (a c : Ty) (σ : St) : addT vs (.mk { data := #[102, 117, 110] } 0 [a, c]) σ = (.nd .ar (addT vs c (addT vs a σ).2).2.length, (addT vs c (addT vs a σ).2).2 ++ [⟨.ar (addT vs a σ).1 (addT vs c (addT vs a σ).2).1, none⟩]) := by rw [addT]; simp
/-- a node more, at a new block. -/
theorem SW.add {w : World} {ad : List Nat} {τ : St} (h : SW w ad τ) {b : Nat} (hb : ¬ b ∈ ad) {nk : NK} {o : Obj} (ho : w.heap[b]? = some o) (hn : NBk ad nk .nilIface o) : SW w (ad ++ [b]) (τ ++ [⟨nk, none⟩]) := by
  refine ⟨by simp [h.len], ?_, ?_⟩
  · refine List.nodup_append.2 ⟨h.inj, by simp, ?_⟩
    intro x hx y hy e
    simp at hy
    subst hy
    subst e
    exact hb hx
  · intro i mk s c hi hc
    by_cases e : i < τ.length
    · rw [List.getElem?_append_left e] at hi
      rw [List.getElem?_append_left (by rw [h.len]; exact e)] at hc
      obtain ⟨sv, o', h1, h2, h3⟩ := h.blk i mk s c hi hc
      exact ⟨sv, o', h1, h2.up _, h3.up _⟩
    · have e2 : i = τ.length := by
        have := (List.getElem?_eq_some_iff.1 hi).1
        simp at this
        omega
      subst e2
      rw [← h.len] at hc
      simp at hi hc
      obtain ⟨rfl, rfl⟩ := hi
      subst hc
      exact ⟨.nilIface, o, ho, rfl, hn.up _⟩
theorem SW.vars {w : World} (names : List ByteArray) : ∀ {ad : List Nat} {τ : St} {vb : List Nat}, SW w ad τ → vb.length = names.length → (∀ j, j < names.length → w.heap[vb.getD j 0]? = some (.cells #[.nilIface, .string (names.getD j { data := #[] }), .bool false] 148 (0, 0))) → vb.Nodup → (∀ c, c ∈ vb → ¬ c ∈ ad) → SW w (ad ++ vb) (τ ++ vrs names) := by
  induction names with
  | nil =>
    intro ad τ vb h hl _ _ _
    have : vb = [] := List.eq_nil_of_length_eq_zero (by simpa using hl)
    subst this
    simpa [vrs] using h
  | cons n names ih =>
    intro ad τ vb h hl hv hd hn
    cases vb with
    | nil => simp at hl
    | cons b vb =>
      have h0 := hv 0 (by simp)
      have h1 := h.add (hn b (by simp)) (nk := .vr n false) h0 rfl
      have := ih (vb := vb) h1 (by simpa using hl) (fun j hj => by
        have := hv (j + 1) (by simp; omega)
        simpa using this) (List.nodup_cons.1 hd).2 (fun c hc z => by
        simp at z
        rcases z with z | z
        · exact hn c (by simp [hc]) z
        · subst z
          exact (List.nodup_cons.1 hd).1 hc)
      simpa [vrs, List.append_assoc] using this
/-- a type that was read joins the store. -/
theorem SW.adopt {w : World} {vb : List Nat} {lo hi : Nat} {t : Ty} {v : Value} (h : PTyR w vb lo hi t v) : ∀ (vs : Nat) (ad : List Nat) (τ : St), SW w ad τ → (∀ n b, vb[n]? = some b → ad[vs + n]? = some b) → (∀ c, c ∈ ad → (∃ cs f, w.heap[c]? = some (.cells cs 148 f)) ∨ c < lo) →
    ∃ bl, SW w (ad ++ bl) (addT vs t τ).2 ∧ RV (ad ++ bl) (addT vs t τ).1 v ∧ (∀ c, c ∈ bl → lo ≤ c ∧ c < hi) := by
  induction h with
  | var n b lo hi h1 hb =>
    intro vs ad τ hs hv hlo
    rw [addT_var]
    exact ⟨[], by simpa using hs, ⟨b, by simpa using hv n b hb, rfl⟩, by simp⟩
  | base kd lo hi h1 hk =>
    intro vs ad τ hs hv hlo
    rcases hk with rfl | rfl
    · rw [addT_int]
      exact ⟨[], by simpa using hs, rfl, by simp⟩
    · rw [addT_bool]
      exact ⟨[], by simpa using hs, rfl, by simp⟩
  | list a b p lo m hi hb ha h1 h2 ih =>
    intro vs ad τ hs hv hlo
    obtain ⟨bl, s1, r1, q1⟩ := ih vs ad τ hs hv hlo
    have hm := ha.le
    rw [addT_list]
    have hnb : ¬ b ∈ ad ++ bl := fun z => by
      simp at z
      rcases z with z | z
      · rcases hlo b z with ⟨cs, f, e⟩ | e
        · rw [hb] at e
          simp at e
        · omega
      · have := q1 b z
        omega
    refine ⟨bl ++ [b], ?_, ?_, ?_⟩
    · rw [← List.append_assoc]
      exact s1.add hnb hb ⟨p, r1, rfl⟩
    · refine ⟨b, ?_, rfl⟩
      rw [← List.append_assoc, ← s1.len]
      simp
    · intro c hc
      simp at hc
      rcases hc with hc | rfl
      · have := q1 c hc
        omega
      · omega
  | pair a c b p q lo m k hi hb ha hc h1 h2 ih ih2 =>
    intro vs ad τ hs hv hlo
    obtain ⟨bl, s1, r1, q1⟩ := ih vs ad τ hs hv hlo
    have hm := ha.le
    have hmk := hc.le
    obtain ⟨bl2, s2, r2, q2⟩ := ih2 vs (ad ++ bl) _ s1 (fun n b hb => by rw [List.getElem?_append_left (List.getElem?_eq_some_iff.1 (hv n b hb)).1]; exact hv n b hb) (fun x hx => by
      simp at hx
      rcases hx with hx | hx
      · rcases hlo x hx with e | e
        · exact .inl e
        · exact .inr (by omega)
      · exact .inr (q1 x hx).2)
    rw [addT_pair]
    have hnb : ¬ b ∈ ad ++ bl ++ bl2 := fun z => by
      simp at z
      rcases z with z | z | z
      · rcases hlo b z with ⟨cs, f, e⟩ | e
        · rw [hb] at e
          simp at e
        · omega
      · have := q1 b z
        omega
      · have := q2 b z
        omega
    refine ⟨bl ++ bl2 ++ [b], ?_, ?_, ?_⟩
    · have := s2.add hnb hb (nk := .pr (addT vs a τ).1 (addT vs c (addT vs a τ).2).1) ⟨p, q, r1.up _, r2, rfl⟩
      simpa [List.append_assoc] using this
    · refine ⟨b, ?_, rfl⟩
      rw [← s2.len]
      simp [List.append_assoc]
    · intro x hx
      simp at hx
      rcases hx with hx | hx | rfl
      · have := q1 x hx
        omega
      · have := q2 x hx
        omega
      · omega
  | fn a c b p q lo m k hi hb ha hc h1 h2 ih ih2 =>
    intro vs ad τ hs hv hlo
    obtain ⟨bl, s1, r1, q1⟩ := ih vs ad τ hs hv hlo
    have hm := ha.le
    have hmk := hc.le
    obtain ⟨bl2, s2, r2, q2⟩ := ih2 vs (ad ++ bl) _ s1 (fun n b hb => by rw [List.getElem?_append_left (List.getElem?_eq_some_iff.1 (hv n b hb)).1]; exact hv n b hb) (fun x hx => by
      simp at hx
      rcases hx with hx | hx
      · rcases hlo x hx with e | e
        · exact .inl e
        · exact .inr (by omega)
      · exact .inr (q1 x hx).2)
    rw [addT_fn]
    have hnb : ¬ b ∈ ad ++ bl ++ bl2 := fun z => by
      simp at z
      rcases z with z | z | z
      · rcases hlo b z with ⟨cs, f, e⟩ | e
        · rw [hb] at e
          simp at e
        · omega
      · have := q1 b z
        omega
      · have := q2 b z
        omega
    refine ⟨bl ++ bl2 ++ [b], ?_, ?_, ?_⟩
    · have := s2.add hnb hb (nk := .ar (addT vs a τ).1 (addT vs c (addT vs a τ).2).1) ⟨p, q, r1.up _, r2, rfl⟩
      simpa [List.append_assoc] using this
    · refine ⟨b, ?_, rfl⟩
      rw [← s2.len]
      simp [List.append_assoc]
    · intro x hx
      simp at hx
      rcases hx with hx | hx | rfl
      · have := q1 x hx
        omega
      · have := q2 x hx
        omega
      · omega
mutual
/-- the same tree, with the variables' numbers behind vs. -/
def shiftT (vs : Nat) : Ty → Ty
  | .mk kd n kids => if kd.data.toList == [] then .mk kd (vs + n) [] else .mk kd n (shiftTs vs kids)
def shiftTs (vs : Nat) : List Ty → List Ty
  | [] => []
  | t :: ts => shiftT vs t :: shiftTs vs ts
end
theorem shiftT_var (vs n : Nat) : shiftT vs (.mk { data := #[] } n []) = .mk { data := #[] } (vs + n) [] := by simp [shiftT]
theorem shiftT_int (vs : Nat) : shiftT vs (.mk { data := #[105, 110, 116] } 0 []) = .mk { data := #[105, 110, 116] } 0 [] := by simp [shiftT, shiftTs]
theorem shiftT_bool (vs : Nat) : shiftT vs (.mk { data := #[98, 111, 111, 108] } 0 []) = .mk { data := #[98, 111, 111, 108] } 0 [] := by simp [shiftT, shiftTs]
theorem shiftT_list (vs : Nat) (a : Ty) : shiftT vs (.mk { data := #[108, 105, 115, 116] } 0 [a]) = .mk { data := #[108, 105, 115, 116] } 0 [shiftT vs a] := by simp [shiftT, shiftTs]
theorem shiftT_pair (vs : Nat) (a c : Ty) : shiftT vs (.mk { data := #[112, 97, 105, 114] } 0 [a, c]) = .mk { data := #[112, 97, 105, 114] } 0 [shiftT vs a, shiftT vs c] := by simp [shiftT, shiftTs]
theorem shiftT_fn (vs : Nat) (a c : Ty) : shiftT vs (.mk { data := #[102, 117, 110] } 0 [a, c]) = .mk { data := #[102, 117, 110] } 0 [shiftT vs a, shiftT vs c] := by simp [shiftT, shiftTs]
theorem shiftT_zero {m : Nat} {t : Ty} (h : WT m t) : shiftT 0 t = t := by
  induction h with
  | var n hn => rw [shiftT_var, Nat.zero_add]
  | int => exact shiftT_int 0
  | bool => exact shiftT_bool 0
  | list a _ ih => rw [shiftT_list, ih]
  | pair a b _ _ ih ih2 => rw [shiftT_pair, ih, ih2]
  | fn a b _ _ ih ih2 => rw [shiftT_fn, ih, ih2]
theorem addT_pre (vs : Nat) {m : Nat} {t : Ty} (h : WT m t) : ∀ τ, ∃ u, (addT vs t τ).2 = τ ++ u := by
  induction h with
  | var n hn => intro τ; rw [addT_var]; exact ⟨[], by simp⟩
  | int => intro τ; rw [addT_int]; exact ⟨[], by simp⟩
  | bool => intro τ; rw [addT_bool]; exact ⟨[], by simp⟩
  | list a _ ih =>
    intro τ
    obtain ⟨u, hu⟩ := ih τ
    rw [addT_list]
    exact ⟨u ++ [⟨.ls (addT vs a τ).1, none⟩], by rw [← List.append_assoc, ← hu]⟩
  | pair a b _ _ ih ih2 =>
    intro τ
    obtain ⟨u, hu⟩ := ih τ
    obtain ⟨u2, hu2⟩ := ih2 (addT vs a τ).2
    rw [addT_pair]
    exact ⟨u ++ u2 ++ [⟨.pr (addT vs a τ).1 (addT vs b (addT vs a τ).2).1, none⟩], by rw [← List.append_assoc, ← List.append_assoc, ← hu, ← hu2]⟩
  | fn a b _ _ ih ih2 =>
    intro τ
    obtain ⟨u, hu⟩ := ih τ
    obtain ⟨u2, hu2⟩ := ih2 (addT vs a τ).2
    rw [addT_fn]
    exact ⟨u ++ u2 ++ [⟨.ar (addT vs a τ).1 (addT vs b (addT vs a τ).2).1, none⟩], by rw [← List.append_assoc, ← List.append_assoc, ← hu, ← hu2]⟩
theorem st_up {σ : St} {i : Nat} {x : Nd} (h : σ[i]? = some x) (u : St) : (σ ++ u)[i]? = some x := by
  rw [List.getElem?_append_left (List.getElem?_eq_some_iff.1 h).1]
  exact h
theorem Dn.up {σ : St} {r : TR} {t : Ty} (h : Dn σ r t) (u : St) : Dn (σ ++ u) r t := by
  induction h with
  | int r h => exact .int r (h.up u)
  | bool r h => exact .bool r (h.up u)
  | var r i h => exact .var r i (h.up u)
  | list r i x a h h1 _ ih => exact .list r i x a (h.up u) (st_up h1 u) ih
  | pair r i x y a c h h1 _ _ ih ih2 => exact .pair r i x y a c (h.up u) (st_up h1 u) ih ih2
  | fn r i x y a c h h1 _ _ ih ih2 => exact .fn r i x y a c (h.up u) (st_up h1 u) ih ih2
/-- what was read is that tree. -/
theorem Dn.addT (vs : Nat) {m : Nat} {t : Ty} (h : WT m t) : ∀ τ : St, (∀ n, n < m → ∃ nm g, τ[vs + n]? = some ⟨.vr nm g, none⟩) → Dn (Go.Proofs.YtleenphlgbklmabGreatDoor.addT vs t τ).2 (Go.Proofs.YtleenphlgbklmabGreatDoor.addT vs t τ).1 (shiftT vs t) := by
  induction h with
  | var n hn =>
    intro τ hv
    rw [addT_var, shiftT_var]
    obtain ⟨nm, g, e⟩ := hv n hn
    exact .var _ _ (.root (vs + n) (.vr nm g) e)
  | int => intro τ hv; rw [addT_int, shiftT_int]; exact .int _ .int
  | bool => intro τ hv; rw [addT_bool, shiftT_bool]; exact .bool _ .bool
  | list a ha ih =>
    intro τ hv
    have h1 := ih τ hv
    rw [addT_list, shiftT_list]
    have e : ((Go.Proofs.YtleenphlgbklmabGreatDoor.addT vs a τ).2 ++ [(⟨.ls (Go.Proofs.YtleenphlgbklmabGreatDoor.addT vs a τ).1, none⟩ : Nd)])[(Go.Proofs.YtleenphlgbklmabGreatDoor.addT vs a τ).2.length]? = some ⟨.ls (Go.Proofs.YtleenphlgbklmabGreatDoor.addT vs a τ).1, none⟩ := by simp
    exact .list _ _ _ _ (.root _ (.ls _) e) e (h1.up _)
  | pair a b ha hb ih ih2 =>
    intro τ hv
    have h1 := ih τ hv
    obtain ⟨u, hu⟩ := addT_pre vs ha τ
    have h2 := ih2 (Go.Proofs.YtleenphlgbklmabGreatDoor.addT vs a τ).2 (fun n hn => by
      obtain ⟨nm, g, e⟩ := hv n hn
      exact ⟨nm, g, by rw [hu]; exact st_up e u⟩)
    obtain ⟨u2, hu2⟩ := addT_pre vs hb (Go.Proofs.YtleenphlgbklmabGreatDoor.addT vs a τ).2
    rw [addT_pair, shiftT_pair]
    have e : ((Go.Proofs.YtleenphlgbklmabGreatDoor.addT vs b (Go.Proofs.YtleenphlgbklmabGreatDoor.addT vs a τ).2).2 ++ [(⟨.pr (Go.Proofs.YtleenphlgbklmabGreatDoor.addT vs a τ).1 (Go.Proofs.YtleenphlgbklmabGreatDoor.addT vs b (Go.Proofs.YtleenphlgbklmabGreatDoor.addT vs a τ).2).1, none⟩ : Nd)])[(Go.Proofs.YtleenphlgbklmabGreatDoor.addT vs b (Go.Proofs.YtleenphlgbklmabGreatDoor.addT vs a τ).2).2.length]? = some ⟨.pr (Go.Proofs.YtleenphlgbklmabGreatDoor.addT vs a τ).1 (Go.Proofs.YtleenphlgbklmabGreatDoor.addT vs b (Go.Proofs.YtleenphlgbklmabGreatDoor.addT vs a τ).2).1, none⟩ := by simp
    refine .pair _ _ _ _ _ _ (.root _ (.pr _ _) e) e ?_ (h2.up _)
    have := (h1.up u2).up [(⟨.pr (Go.Proofs.YtleenphlgbklmabGreatDoor.addT vs a τ).1 (Go.Proofs.YtleenphlgbklmabGreatDoor.addT vs b (Go.Proofs.YtleenphlgbklmabGreatDoor.addT vs a τ).2).1, none⟩ : Nd)]
    rw [← hu2] at this
    exact this
  | fn a b ha hb ih ih2 =>
    intro τ hv
    have h1 := ih τ hv
    obtain ⟨u, hu⟩ := addT_pre vs ha τ
    have h2 := ih2 (Go.Proofs.YtleenphlgbklmabGreatDoor.addT vs a τ).2 (fun n hn => by
      obtain ⟨nm, g, e⟩ := hv n hn
      exact ⟨nm, g, by rw [hu]; exact st_up e u⟩)
    obtain ⟨u2, hu2⟩ := addT_pre vs hb (Go.Proofs.YtleenphlgbklmabGreatDoor.addT vs a τ).2
    rw [addT_fn, shiftT_fn]
    have e : ((Go.Proofs.YtleenphlgbklmabGreatDoor.addT vs b (Go.Proofs.YtleenphlgbklmabGreatDoor.addT vs a τ).2).2 ++ [(⟨.ar (Go.Proofs.YtleenphlgbklmabGreatDoor.addT vs a τ).1 (Go.Proofs.YtleenphlgbklmabGreatDoor.addT vs b (Go.Proofs.YtleenphlgbklmabGreatDoor.addT vs a τ).2).1, none⟩ : Nd)])[(Go.Proofs.YtleenphlgbklmabGreatDoor.addT vs b (Go.Proofs.YtleenphlgbklmabGreatDoor.addT vs a τ).2).2.length]? = some ⟨.ar (Go.Proofs.YtleenphlgbklmabGreatDoor.addT vs a τ).1 (Go.Proofs.YtleenphlgbklmabGreatDoor.addT vs b (Go.Proofs.YtleenphlgbklmabGreatDoor.addT vs a τ).2).1, none⟩ := by simp
    refine .fn _ _ _ _ _ _ (.root _ (.ar _ _) e) e ?_ (h2.up _)
    have := (h1.up u2).up [(⟨.ar (Go.Proofs.YtleenphlgbklmabGreatDoor.addT vs a τ).1 (Go.Proofs.YtleenphlgbklmabGreatDoor.addT vs b (Go.Proofs.YtleenphlgbklmabGreatDoor.addT vs a τ).2).1, none⟩ : Nd)]
    rw [← hu2] at this
    exact this
theorem PTyR.wt {w : World} {vb : List Nat} {lo hi : Nat} {t : Ty} {v : Value} (h : PTyR w vb lo hi t v) : WT vb.length t := by
  induction h with
  | var n b lo hi _ hb => exact .var n (List.getElem?_eq_some_iff.1 hb).1
  | base kd lo hi _ hk => rcases hk with rfl | rfl; exact .int; exact .bool
  | list a b p lo m hi hb ha _ _ ih => exact .list a ih
  | pair a c b p q lo m k hi hb ha hc _ _ ih ih2 => exact .pair a c ih ih2
  | fn a c b p q lo m k hi hb ha hc _ _ ih ih2 => exact .fn a c ih ih2
/-- a type that was read, as a store of its own. -/
theorem read_store {w : World} {vb : List Nat} {lo hi : Nat} {t : Ty} {v : Value} {names : List ByteArray} (h : PTyR w vb lo hi t v) (hn : NB w vb names) (hd : vb.Nodup) (hfr : ∀ c, c ∈ vb → lo ≤ c) : ∃ ad, (∀ c, c ∈ ad → lo ≤ c) ∧ SX w ad (Go.Proofs.YtleenphlgbklmabGreatDoor.addT 0 t (vrs names)).2 ∧ RV ad (Go.Proofs.YtleenphlgbklmabGreatDoor.addT 0 t (vrs names)).1 v ∧ Dn (Go.Proofs.YtleenphlgbklmabGreatDoor.addT 0 t (vrs names)).2 (Go.Proofs.YtleenphlgbklmabGreatDoor.addT 0 t (vrs names)).1 t := by
  have h0 : SW w [] [] := ⟨rfl, List.nodup_nil, fun i nk s b hi => by simp at hi⟩
  have h1 := SW.vars names h0 hn.1 hn.2 hd (fun c _ z => by simp at z)
  simp only [List.nil_append] at h1
  obtain ⟨bl, s1, r1, hbl⟩ := SW.adopt h 0 vb (vrs names) h1 (fun n b hb => by simpa using hb) (fun c hc => .inl (by
    obtain ⟨j, hj, rfl⟩ := List.getElem_of_mem hc
    have := hn.2 j (hn.1 ▸ hj)
    have e : vb.getD j 0 = vb[j] := by simp [List.getD, hj]
    rw [e] at this
    exact ⟨_, _, this⟩))
  refine ⟨vb ++ bl, fun c hc => ?_, ⟨_, s1, Ev.refl _⟩, r1, ?_⟩
  · simp at hc
    rcases hc with hc | hc
    · exact hfr c hc
    · exact (hbl c hc).1
  have := Dn.addT 0 h.wt (vrs names) (fun n hlt => by
    refine ⟨names.getD n { data := #[] }, false, ?_⟩
    have : n < names.length := hn.1 ▸ hlt
    simp [vrs, this])
  rw [shiftT_zero h.wt] at this
  exact this
end Go.Proofs.YtleenphlgbklmabGreatDoor
