import Derived.Test.YtleenphlgbklmabGreatDoorUPNum
import Derived.Test.YtleenphlgbklmabGreatDoorUPVb
import Derived.Test.YtleenphlgbklmabGreatDoorUPTa
set_option linter.unusedVariables false
set_option linter.unusedSimpArgs false
namespace Go.Proofs.YtleenphlgbklmabGreatDoor
open Go.RowKit

set_option maxRecDepth 20000 in
set_option maxHeartbeats 1000000 in
theorem pnum_old (w : World) (nb mb b : Nat) (l : List Nat) (hc0 : w.cell? ⟨nb, 0, none⟩ = some (.map (some mb))) (h : NM w mb l) (hb : VBk w b) (j : Nat) (hj : l.findIdx? (fun x => b == x) = some j) (hlt : j < 260) :
    Calls Tryz.prog 57 #[.pointer (some ⟨b, 0, none⟩), .pointer (some ⟨nb, 0, none⟩)] w fun e w' => e = .returned (.string (letM j)) ∧ w' = w := by
  have hl := run_nlook w mb b l h hb
  rw [hj] at hl
  simp only at hl
  have HN : Hid _ := pnbn_small j hlt w
  clear h hj hb
  go_enter Tryz.func57, Tryz.ntmps57
  go_wp2_with (go_at_call 58; refine Calls.mono HN.out ?_; rintro e w' ⟨rfl, hww⟩; rw [hww]; clear hww w')
  go_ret
  exact ⟨rfl, rfl⟩
theorem NM.put {w : World} {mb b : Nat} {l : List Nat} (h : NM w mb l) (hb : VBk w b) : NM (mapSet w mb (.map (nFrom (l ++ [b]) 0).toArray (l.length + 1))) mb (l ++ [b]) := by
  have ho : ∀ c, VBk w c → VBk (mapSet w mb (.map (nFrom (l ++ [b]) 0).toArray (l.length + 1))) c := fun c ⟨s, hc⟩ => ⟨s, by
    rw [mapSet_other _ _ _ _ (fun z => by rw [z, h.mp] at hc; cases hc)]
    exact hc⟩
  refine ⟨?_, ?_⟩
  · rw [mapSet_same _ _ _ (lt_of_block h.mp)]
    simp
  · intro c hc
    simp at hc
    rcases hc with hc | rfl
    · exact ho c (h.vr c hc)
    · exact ho c hb
set_option maxRecDepth 20000 in
set_option maxHeartbeats 1000000 in
theorem pnum_new (w : World) (nb mb b : Nat) (l : List Nat) (hc0 : w.cell? ⟨nb, 0, none⟩ = some (.map (some mb))) (h : NM w mb l) (hb : VBk w b) (hj : l.findIdx? (fun x => b == x) = none) (hlt : l.length < 260) :
    Calls Tryz.prog 57 #[.pointer (some ⟨b, 0, none⟩), .pointer (some ⟨nb, 0, none⟩)] w fun e w' => e = .returned (.string (letM l.length)) ∧ NM w' mb (l ++ [b]) ∧ Kp (· = mb) w w' := by
  have hl := run_nlook w mb b l h hb
  rw [hj] at hl
  simp only at hl
  have hu := run_nput w mb b l h hb hj
  have hm := h.mp
  have hn : (nFrom l 0).toArray.size = l.length := by simp [nFrom_length]
  have hlen : (Builtin.len_ #[123] 3 #[.map (some mb)]).run Tryz.prog w = .ok (.int .i64 (l.length : Int)) w := by
    simp [Builtin.len_, run_underlying Tryz.underlying123, MapKept.run_getObj_map hm, Result.andThen, nFrom_length, goInt]
  have HP : Hid _ := h.put hb
  have HK : Hid _ := mapSet_kp w mb (.map (nFrom (l ++ [b]) 0).toArray (l.length + 1))
  have HN : Hid _ := pnbn_small l.length hlt (mapSet w mb (.map (nFrom (l ++ [b]) 0).toArray (l.length + 1)))
  clear h hj hb hm hn
  go_enter Tryz.func57, Tryz.ntmps57
  go_wp2_with (go_at_call 58; refine Calls.mono HN.out ?_; rintro e w' ⟨rfl, hww⟩; rw [hww]; clear hww w')
  go_ret
  exact ⟨rfl, HP.out, HK.out⟩
end Go.Proofs.YtleenphlgbklmabGreatDoor

namespace Go.Proofs.YtleenphlgbklmabGreatDoor
open Go.RowKit
theorem Tryz.mkN (w : World) : (Instr.makeMap 123 none).run Tryz.prog w = .ok (.map (some w.heap.size)) (w.alloc (.map #[] 0)) := by kernel_rfl
set_option maxRecDepth 20000 in
theorem pnio_any (w : World) : Calls Tryz.prog 37 #[] w fun e w' => ∃ nb mb, e = .returned (.func (.func 57) #[] #[.pointer (some ⟨nb, 0, none⟩)]) ∧ w'.heap[nb]? = some (.cells #[.map (some mb)] 123 (0, 0)) ∧ NM w' mb [] ∧ Kp (fun _ => False) w w' ∧ w.heap.size ≤ mb := by
  have m1 := Tryz.mkN w
  go_enter Tryz.func37, Tryz.ntmps37
  go_wp2
  go_ret
  have hk1 : Kp (fun _ => False) (w.alloc (.map #[] 0)) ((w.alloc (.map #[] 0)).alloc (.cells #[.map (some w.heap.size)] 123)) := (Kp.refl _ _).alloc _
  refine ⟨w.heap.size + 1, w.heap.size, rfl, ?_, ⟨hk1.blk (heap_alloc_new _ _) (fun z => z), by simp⟩, ((Kp.refl _ w).alloc _).trans hk1, Nat.le_refl _⟩
  have := heap_alloc_new (w.alloc (.map #[] 0)) (.cells #[.map (some w.heap.size)] 123)
  simpa using this
end Go.Proofs.YtleenphlgbklmabGreatDoor

namespace Go.Proofs.YtleenphlgbklmabGreatDoor
open Go.RowKit

theorem cnN_get {l L : List Nat} (hp : l <+: L) (hd : L.Nodup) {j n : Nat} (h : l[j]? = some n) : (cnN L).getD n { data := #[] } = letM j := by
  have hj : j < l.length := (List.getElem?_eq_some_iff.1 h).1
  have hL : L[j]? = some n := by
    obtain ⟨r, rfl⟩ := hp
    rw [List.getElem?_append_left hj]
    exact h
  have hjL := (List.getElem?_eq_some_iff.1 hL).1
  have := cnA_get L (mxL L) hd (fun x hx => mxL_mem hx) L.length (Nat.le_refl _) j hjL
  have e : L.getD j 0 = n := by simp [List.getD, hL]
  rw [e] at this
  exact this
theorem idx_map (f : Nat → Nat) (n : Nat) (l : List Nat) (hf : ∀ x, x ∈ l → f n = f x → n = x) : (l.map f).findIdx? (fun x => f n == x) = l.findIdx? (fun x => n == x) := by
  induction l with
  | nil => rfl
  | cons a l ih =>
    have hi := ih (fun x hx => hf x (by simp [hx]))
    have e : (f n == f a) = (n == a) := by
      rw [Bool.eq_iff_iff, beq_iff_eq, beq_iff_eq]
      exact ⟨fun z => hf a List.mem_cons_self z, fun z => by rw [z]⟩
    simp only [List.map_cons, List.findIdx?_cons, hi, e]
theorem idx_some {l : List Nat} {n j : Nat} (h : l.findIdx? (fun x => n == x) = some j) : l[j]? = some n := by
  obtain ⟨hj, e, _⟩ := List.findIdx?_eq_some_iff_getElem.1 h
  rw [List.getElem?_eq_getElem hj]
  have := beq_iff_eq.1 e
  rw [← this]
theorem idx_none {l : List Nat} {n : Nat} (h : l.findIdx? (fun x => n == x) = none) : ¬ n ∈ l := by
  intro hm
  have := (List.findIdx?_eq_none_iff.1 h) n hm
  simp at this
/-- names in order: the numbers of the variables come to. -/
structure NOk (ad : List Nat) (σ : St) (B nb mb : Nat) (w : World) (l : List Nat) : Prop where
  nbc : w.heap[nb]? = some (.cells #[.map (some mb)] 123 (0, 0))
  nbB : nb < B
  mbB : mb < B
  mp : w.heap[mb]? = some (.map (nFrom (l.map fun n => ad.getD n 0) 0).toArray l.length)
  vr : ∀ n, n ∈ l → ∃ nm g s, σ[n]? = some ⟨.vr nm g, s⟩
theorem NOk.okk (ad : List Nat) (σ : St) (B nb mb : Nat) : OkK ad B (NOk ad σ B nb mb) := by
  intro w w' l h k
  refine ⟨k.blk _ _ h.nbc (fun z => by have z : B ≤ nb := z; have := h.nbB; omega) ?_, h.nbB, h.mbB, k.blk _ _ h.mp (fun z => by have z : B ≤ mb := z; have := h.mbB; omega) ?_, h.vr⟩
  · rintro ⟨cs, e, f, he, ht⟩
    simp only [Obj.cells.injEq] at he
    obtain ⟨_, rfl, _⟩ := he
    rcases ht with e | e | e | e <;> cases e
  · rintro ⟨cs, e, f, he, _⟩
    cases he
theorem SX.vbk {w : World} {ad : List Nat} {σ : St} (h : SX w ad σ) {n : Nat} {nm : ByteArray} {g : Bool} {s : Option TR} (hn : σ[n]? = some ⟨.vr nm g, s⟩) : ∃ c, ad[n]? = some c ∧ VBk w c := by
  obtain ⟨τ, h1, h2⟩ := h
  obtain ⟨s', h3, _⟩ := h2.kk n _ _ hn
  have hlt := (List.getElem?_eq_some_iff.1 h3).1
  have hlt : n < ad.length := by rw [h1.len]; exact hlt
  obtain ⟨sv, o, h4, _, h5⟩ := h1.blk n _ _ (ad[n]) h3 (by simp)
  refine ⟨ad[n], by simp, #[sv, .string nm, .bool g], ?_⟩
  rw [h4]
  exact congrArg some h5
/-- a writing with names in order. -/
def WO (ad : List Nat) (σ : St) (B b pm nb mb : Nat) (L : List Nat) : WE := ⟨ad, σ, B, b, pm, .func (.func 57) #[] #[.pointer (some ⟨nb, 0, none⟩)], cnN L, NOk ad σ B nb mb, (· = mb), L⟩
section
variable {ad : List Nat} {σ : St} {B b pm nb mb : Nat} {L : List Nat}
theorem num_step {w : World} {l : List Nat} {sp : List Sp} {es : List (TR × Nat × Nat)} (h : (WO ad σ B b pm nb mb L).TX w l sp es) (n c : Nat) (nm : ByteArray) (g : Bool) (s : Option TR) (hn : σ[n]? = some ⟨.vr nm g, s⟩) (hc : ad[n]? = some c) (hL : L.length ≤ 260) (hp : varsM (.mk { data := #[] } n []) l <+: L) :
    Calls Tryz.prog 57 #[.pointer (some ⟨c, 0, none⟩), .pointer (some ⟨nb, 0, none⟩)] w fun e w' => ∃ j, e = .returned (.string (letM j)) ∧ (WO ad σ B b pm nb mb L).TX w' (varsM (.mk { data := #[] } n []) l) sp es ∧ Kt ad (SN B (· = mb)) w w' ∧ (varsM (.mk { data := #[] } n []) l)[j]? = some n := by
  have hN : NOk ad σ B nb mb w l := h.ns
  have h260 := Nat.le_trans hp.length_le hL
  have hl : l <+: varsM (.mk { data := #[] } n []) l := varsM_pre (m := n + 1) (.var n (by omega)) l
  have gd : ∀ x, x ∈ l → ∃ q, ad[x]? = some q ∧ VBk w q := fun x hx => by
    obtain ⟨nm, g, s, hx⟩ := hN.vr x hx
    exact SX.vbk h.st hx
  have hgc : ad.getD n 0 = c := by simp [List.getD, hc]
  have hst : SX w ad σ := h.st
  obtain ⟨τ, hsw, _⟩ := hst
  have hinj : ∀ x, x ∈ l → ad.getD n 0 = ad.getD x 0 → n = x := fun x hx e => by
    obtain ⟨q, hq, _⟩ := gd x hx
    have e2 : ad.getD x 0 = q := by simp [List.getD, hq]
    rw [hgc, e2] at e
    subst e
    exact nodup_get hsw.inj hc hq
  have hV : VBk w c := by
    obtain ⟨c', h1, h2⟩ := SX.vbk h.st hn
    have h1 : ad[n]? = some c' := h1
    rw [hc] at h1
    simp at h1
    subst h1
    exact h2
  have hNM : NM w mb (l.map fun n => ad.getD n 0) := ⟨by rw [hN.mp]; simp, fun q hq => by
    obtain ⟨x, hx, rfl⟩ := List.mem_map.1 hq
    obtain ⟨q, hq, hb⟩ := gd x hx
    have : ad.getD x 0 = q := by simp [List.getD, hq]
    rw [this]
    exact hb⟩
  have hc0 : w.cell? ⟨nb, 0, none⟩ = some (.map (some mb)) := by simp [World.cell?, hN.nbc]
  have hi := idx_map (fun n => ad.getD n 0) n l hinj
  simp only [hgc] at hi
  have hvl := varsM_leaf n l
  cases hj : l.findIdx? (fun x => n == x) with
  | some j =>
    have hjs := idx_some hj
    have hin : inB l n = true := List.contains_iff_mem.2 (List.mem_of_getElem? hjs)
    have hjl := (List.getElem?_eq_some_iff.1 hjs).1
    rw [hin] at hvl
    simp only [if_true] at hvl
    rw [hvl] at h260 ⊢
    refine (pnum_old w nb mb _ _ hc0 hNM hV j (hi.trans hj) (by omega)).mono ?_
    rintro e w' ⟨rfl, hww⟩
    subst hww
    exact ⟨j, rfl, h, Kt.refl _ _ _, hjs⟩
  | none =>
    have hin : inB l n = false := by
      rw [Bool.eq_false_iff]
      exact fun z => idx_none hj (List.contains_iff_mem.1 z)
    rw [hin] at hvl
    simp only [Bool.false_eq_true, if_false] at hvl
    rw [hvl] at h260 hl ⊢
    simp at h260
    refine (pnum_new w nb mb _ _ hc0 hNM hV (hi.trans hj) (by simp; omega)).mono ?_
    rintro e w' ⟨rfl, hM, hk⟩
    have hmp := hN.mp
    have hB := h.bs
    have hkt : Kt ad (· = mb) w w' := Kt.of_kp hk
    have hne : nb ≠ mb := fun z => by
      have a := hN.nbc
      rw [z, hmp] at a
      cases a
    refine ⟨l.length, by simp, ⟨TL.kt h.tl hkt (fun q hq => by rw [show q = mb from hq]; exact hN.mbB), TMp.kt h.mp hkt (fun z => by have := h.pB; have z : pm = mb := z; have := hN.mbB; have : B ≤ pm := h.pB; omega), h.st.keep (fun a o ha hb => hk.blk hb (fun z => ?_)), ⟨hk.blk hN.nbc hne, hN.nbB, hN.mbB, ?_, ?_⟩, Nat.le_trans hB hk.size, h.pB, h.adB, ?_⟩, hkt.mono (fun q _ hq => .inr hq), by simp⟩
    · obtain ⟨o', h1, cs, ty, f, rfl, _⟩ := hsw.tb ha
      rw [show a = mb from z, hmp] at h1
      cases h1
    · have := hM.mp
      rw [this, List.map_append]
      simp only [List.map_cons, List.map_nil, hgc, List.length_append, List.length_map, List.length_cons, List.length_nil]
    · intro x hx
      simp at hx
      rcases hx with hx | rfl
      · exact hN.vr x hx
      · exact ⟨nm, g, s, hn⟩
    · intro e he
      obtain ⟨T, q1, q2, q3, q4, q5⟩ := h.pcs e he
      exact ⟨T, q1, q2, q3, q4, varsM_idem q1.wt l _ (by rw [q5]; exact hl)⟩
end
theorem letM_size2 (j : Nat) : (letM j).size ≤ 900 := by have := letM_size j; omega
theorem letM_pos (n : Nat) : 0 < (letM n).size := by
  unfold letM
  split
  · simp [bytesN, ByteArray.size]
  · simp [bytesN, ByteArray.size]
set_option maxRecDepth 20000 in
set_option maxHeartbeats 1000000 in
theorem first_num (ad : List Nat) (σ : St) (B b pm nb mb : Nat) (L : List Nat) (hE : (WO ad σ B b pm nb mb L).Ok) (hd : L.Nodup) (hL : L.length ≤ 260) (n : Nat) (nm : ByteArray) (g : Bool) (hnd : σ[n]? = some ⟨.vr nm g, none⟩) : SFst (WO ad σ B b pm nb mb L) (.nd .vr n) (.mk { data := #[] } n []) := by
  intro w v l sp es hv h hp hn hl
  have hsz : sz (.mk { data := #[] } n []) = 1 := by simp [sz, szs]
  rw [hsz] at hn hl ⊢
  obtain ⟨c, hc, rfl⟩ := hv
  have hc : ad[n]? = some c := hc
  rw [show Kd.vr.tp = 124 from rfl]
  show Calls Tryz.prog 126 #[.pointer (some ⟨b, 0, none⟩), _] w _
  have HN : Hid _ := num_step h n c nm g none hnd hc hL hp
  have HS : Hid (∀ (w' : World) (j : Nat), (WO ad σ B b pm nb mb L).TX w' (varsM (.mk { data := #[] } n []) l) sp es → Calls Tryz.prog 157 #[.pointer (some ⟨b, 0, none⟩), .string (letM j)] w' fun e w'' => e = .returned (.tuple #[]) ∧ (WO ad σ B b pm nb mb L).TX w'' (varsM (.mk { data := #[] } n []) l) (sp ++ [.tk (letM j)]) es ∧ Kt ad (SN B (· = mb)) w' w'') := fun w' j hT => tok_step _ hE w' _ sp es hT (letM j) (letM_pos j) (by have := letM_size j; omega) (by omega)
  have t1 := Tryz.taVB (.pointer (some ⟨c, 0, none⟩)) w
  have t2 := Tryz.taVV (.pointer (some ⟨c, 0, none⟩)) w
  have c0 : w.cell? ⟨b, 0, none⟩ = some (.func (.func 57) #[] #[.pointer (some ⟨nb, 0, none⟩)]) := h.tl.c.1
  have HG : Hid (∀ j, (varsM (.mk { data := #[] } n []) l)[j]? = some n → shT (cnN L) (.mk { data := #[] } n []) = letM j) := fun j hj => (shT_var _ n).trans (cnN_get hp hd hj)
  clear h hp hnd hc
  go_enter Tryz.func126, Tryz.ntmps126
  go_wp2_with fail
  refine Calls.mono HN.out ?_
  rintro e w2 ⟨j, rfl, hT, hk, hj⟩
  have HS2 : Hid _ := HS.out w2 j hT
  clear HS HN hT
  go_wp2_with fail
  refine Calls.mono HS2.out ?_
  rintro e w3 ⟨rfl, hT3, hk3⟩
  go_wp2
  go_end0
  have e := HG.out j hj
  refine ⟨rfl, sp ++ [.tk (letM j)], es, hT3, ?_, ?_, by simp, fun e he => .inl he, hk.trans hk3⟩
  · show _ = decS sp ++ shT (cnN L) _
    rw [e, decS_tk]
  · rw [decS_tk_size]; have := letM_size j; omega
end Go.Proofs.YtleenphlgbklmabGreatDoor

namespace Go.Proofs.YtleenphlgbklmabGreatDoor
open Go.RowKit

/-- the variables of a type that was read. -/
def vrs (names : List ByteArray) : St := names.map fun n => ⟨.vr n false, none⟩
/-- a type that was read, as nodes behind those of the store: what it is, and the nodes. -/
def addT (vs : Nat) : Ty → St → TR × St
  | .mk kd n kids, σ =>
    if kd.data.toList == [] then (.nd .vr (vs + n), σ)
    else if kd.data.toList == ({ data := #[105, 110, 116] } : ByteArray).data.toList then (.int, σ)
    else if kd.data.toList == ({ data := #[98, 111, 111, 108] } : ByteArray).data.toList then (.bool, σ)
    else match kids with
      | [a] =>
        let p := addT vs a σ
        (.nd .ls p.2.length, p.2 ++ [⟨.ls p.1, none⟩])
      | [a, c] =>
        let p := addT vs a σ
        let q := addT vs c p.2
        if kd.data.toList == ({ data := #[112, 97, 105, 114] } : ByteArray).data.toList then (.nd .pr q.2.length, q.2 ++ [⟨.pr p.1 q.1, none⟩]) else (.nd .ar q.2.length, q.2 ++ [⟨.ar p.1 q.1, none⟩])
      | _ => (.int, σ)
theorem addT_var (vs n : Nat) (σ : St) : addT vs (.mk { data := #[] } n []) σ = (.nd .vr (vs + n), σ) := by simp [addT]
theorem addT_int (vs : Nat) (σ : St) : addT vs (.mk { data := #[105, 110, 116] } 0 []) σ = (.int, σ) := by simp [addT]
theorem addT_bool (vs : Nat) (σ : St) : addT vs (.mk { data := #[98, 111, 111, 108] } 0 []) σ = (.bool, σ) := by simp [addT]
theorem addT_list (vs : Nat) (a : Ty) (σ : St) : addT vs (.mk { data := #[108, 105, 115, 116] } 0 [a]) σ = (.nd .ls (addT vs a σ).2.length, (addT vs a σ).2 ++ [⟨.ls (addT vs a σ).1, none⟩]) := by rw [addT]; simp
theorem addT_pair (vs : Nat) (a c : Ty) (σ : St) : addT vs (.mk { data := #[112, 97, 105, 114] } 0 [a, c]) σ = (.nd .pr (addT vs c (addT vs a σ).2).2.length, (addT vs c (addT vs a σ).2).2 ++ [⟨.pr (addT vs a σ).1 (addT vs c (addT vs a σ).2).1, none⟩]) := by rw [addT]; simp
theorem addT_fn (vs : Nat) (a c : Ty) (σ : St) : addT vs (.mk { data := #[102, 117, 110] } 0 [a, c]) σ = (.nd .ar (addT vs c (addT vs a σ).2).2.length, (addT vs c (addT vs a σ).2).2 ++ [⟨.ar (addT vs a σ).1 (addT vs c (addT vs a σ).2).1, none⟩]) := by rw [addT]; simp
/-- a node more, at a new block. -/
theorem SW.add {w : World} {ad : List Nat} {τ : St} (h : SW w ad τ) {b : Nat} (hb : ¬ b ∈ ad) {nk : NK} {o : Obj} (ho : w.heap[b]? = some o) (hn : NBk ad nk .nilIface o) : SW w (ad ++ [b]) (τ ++ [⟨nk, none⟩]) := by
  refine ⟨by simp [h.len], ?_, ?_⟩
  · refine List.nodup_append.2 ⟨h.inj, by simp, ?_⟩
    intro x hx y hy e
    simp at hy
    subst hy
    subst e
    exact hb hx
  · intro i mk s c hi hc
    by_cases e : i < τ.length
    · rw [List.getElem?_append_left e] at hi
      rw [List.getElem?_append_left (by rw [h.len]; exact e)] at hc
      obtain ⟨sv, o', h1, h2, h3⟩ := h.blk i mk s c hi hc
      exact ⟨sv, o', h1, h2.up _, h3.up _⟩
    · have e2 : i = τ.length := by
        have := (List.getElem?_eq_some_iff.1 hi).1
        simp at this
        omega
      subst e2
      rw [← h.len] at hc
      simp at hi hc
      obtain ⟨rfl, rfl⟩ := hi
      subst hc
      exact ⟨.nilIface, o, ho, rfl, hn.up _⟩
theorem SW.vars {w : World} (names : List ByteArray) : ∀ {ad : List Nat} {τ : St} {vb : List Nat}, SW w ad τ → vb.length = names.length → (∀ j, j < names.length → w.heap[vb.getD j 0]? = some (.cells #[.nilIface, .string (names.getD j { data := #[] }), .bool false] 148 (0, 0))) → vb.Nodup → (∀ c, c ∈ vb → ¬ c ∈ ad) → SW w (ad ++ vb) (τ ++ vrs names) := by
  induction names with
  | nil =>
    intro ad τ vb h hl _ _ _
    have : vb = [] := List.eq_nil_of_length_eq_zero (by simpa using hl)
    subst this
    simpa [vrs] using h
  | cons n names ih =>
    intro ad τ vb h hl hv hd hn
    cases vb with
    | nil => simp at hl
    | cons b vb =>
      have h0 := hv 0 (by simp)
      have h1 := h.add (hn b (by simp)) (nk := .vr n false) h0 rfl
      have := ih (vb := vb) h1 (by simpa using hl) (fun j hj => by
        have := hv (j + 1) (by simp; omega)
        simpa using this) (List.nodup_cons.1 hd).2 (fun c hc z => by
        simp at z
        rcases z with z | z
        · exact hn c (by simp [hc]) z
        · subst z
          exact (List.nodup_cons.1 hd).1 hc)
      simpa [vrs, List.append_assoc] using this
/-- a type that was read joins the store. -/
theorem SW.adopt {w : World} {vb : List Nat} {lo hi : Nat} {t : Ty} {v : Value} (h : PTyR w vb lo hi t v) : ∀ (vs : Nat) (ad : List Nat) (τ : St), SW w ad τ → (∀ n b, vb[n]? = some b → ad[vs + n]? = some b) → (∀ c, c ∈ ad → (∃ cs f, w.heap[c]? = some (.cells cs 148 f)) ∨ c < lo) →
    ∃ bl, SW w (ad ++ bl) (addT vs t τ).2 ∧ RV (ad ++ bl) (addT vs t τ).1 v ∧ (∀ c, c ∈ bl → lo ≤ c ∧ c < hi) := by
  induction h with
  | var n b lo hi h1 hb =>
    intro vs ad τ hs hv hlo
    rw [addT_var]
    exact ⟨[], by simpa using hs, ⟨b, by simpa using hv n b hb, rfl⟩, by simp⟩
  | base kd lo hi h1 hk =>
    intro vs ad τ hs hv hlo
    rcases hk with rfl | rfl
    · rw [addT_int]
      exact ⟨[], by simpa using hs, rfl, by simp⟩
    · rw [addT_bool]
      exact ⟨[], by simpa using hs, rfl, by simp⟩
  | list a b p lo m hi hb ha h1 h2 ih =>
    intro vs ad τ hs hv hlo
    obtain ⟨bl, s1, r1, q1⟩ := ih vs ad τ hs hv hlo
    have hm := ha.le
    rw [addT_list]
    have hnb : ¬ b ∈ ad ++ bl := fun z => by
      simp at z
      rcases z with z | z
      · rcases hlo b z with ⟨cs, f, e⟩ | e
        · rw [hb] at e
          simp at e
        · omega
      · have := q1 b z
        omega
    refine ⟨bl ++ [b], ?_, ?_, ?_⟩
    · rw [← List.append_assoc]
      exact s1.add hnb hb ⟨p, r1, rfl⟩
    · refine ⟨b, ?_, rfl⟩
      rw [← List.append_assoc, ← s1.len]
      simp
    · intro c hc
      simp at hc
      rcases hc with hc | rfl
      · have := q1 c hc
        omega
      · omega
  | pair a c b p q lo m k hi hb ha hc h1 h2 ih ih2 =>
    intro vs ad τ hs hv hlo
    obtain ⟨bl, s1, r1, q1⟩ := ih vs ad τ hs hv hlo
    have hm := ha.le
    have hmk := hc.le
    obtain ⟨bl2, s2, r2, q2⟩ := ih2 vs (ad ++ bl) _ s1 (fun n b hb => by rw [List.getElem?_append_left (List.getElem?_eq_some_iff.1 (hv n b hb)).1]; exact hv n b hb) (fun x hx => by
      simp at hx
      rcases hx with hx | hx
      · rcases hlo x hx with e | e
        · exact .inl e
        · exact .inr (by omega)
      · exact .inr (q1 x hx).2)
    rw [addT_pair]
    have hnb : ¬ b ∈ ad ++ bl ++ bl2 := fun z => by
      simp at z
      rcases z with z | z | z
      · rcases hlo b z with ⟨cs, f, e⟩ | e
        · rw [hb] at e
          simp at e
        · omega
      · have := q1 b z
        omega
      · have := q2 b z
        omega
    refine ⟨bl ++ bl2 ++ [b], ?_, ?_, ?_⟩
    · have := s2.add hnb hb (nk := .pr (addT vs a τ).1 (addT vs c (addT vs a τ).2).1) ⟨p, q, r1.up _, r2, rfl⟩
      simpa [List.append_assoc] using this
    · refine ⟨b, ?_, rfl⟩
      rw [← s2.len]
      simp [List.append_assoc]
    · intro x hx
      simp at hx
      rcases hx with hx | hx | rfl
      · have := q1 x hx
        omega
      · have := q2 x hx
        omega
      · omega
  | fn a c b p q lo m k hi hb ha hc h1 h2 ih ih2 =>
    intro vs ad τ hs hv hlo
    obtain ⟨bl, s1, r1, q1⟩ := ih vs ad τ hs hv hlo
    have hm := ha.le
    have hmk := hc.le
    obtain ⟨bl2, s2, r2, q2⟩ := ih2 vs (ad ++ bl) _ s1 (fun n b hb => by rw [List.getElem?_append_left (List.getElem?_eq_some_iff.1 (hv n b hb)).1]; exact hv n b hb) (fun x hx => by
      simp at hx
      rcases hx with hx | hx
      · rcases hlo x hx with e | e
        · exact .inl e
        · exact .inr (by omega)
      · exact .inr (q1 x hx).2)
    rw [addT_fn]
    have hnb : ¬ b ∈ ad ++ bl ++ bl2 := fun z => by
      simp at z
      rcases z with z | z | z
      · rcases hlo b z with ⟨cs, f, e⟩ | e
        · rw [hb] at e
          simp at e
        · omega
      · have := q1 b z
        omega
      · have := q2 b z
        omega
    refine ⟨bl ++ bl2 ++ [b], ?_, ?_, ?_⟩
    · have := s2.add hnb hb (nk := .ar (addT vs a τ).1 (addT vs c (addT vs a τ).2).1) ⟨p, q, r1.up _, r2, rfl⟩
      simpa [List.append_assoc] using this
    · refine ⟨b, ?_, rfl⟩
      rw [← s2.len]
      simp [List.append_assoc]
    · intro x hx
      simp at hx
      rcases hx with hx | hx | rfl
      · have := q1 x hx
        omega
      · have := q2 x hx
        omega
      · omega
mutual
/-- the same tree, with the variables' numbers behind vs. -/
def shiftT (vs : Nat) : Ty → Ty
  | .mk kd n kids => if kd.data.toList == [] then .mk kd (vs + n) [] else .mk kd n (shiftTs vs kids)
def shiftTs (vs : Nat) : List Ty → List Ty
  | [] => []
  | t :: ts => shiftT vs t :: shiftTs vs ts
end
theorem shiftT_var (vs n : Nat) : shiftT vs (.mk { data := #[] } n []) = .mk { data := #[] } (vs + n) [] := by simp [shiftT]
theorem shiftT_int (vs : Nat) : shiftT vs (.mk { data := #[105, 110, 116] } 0 []) = .mk { data := #[105, 110, 116] } 0 [] := by simp [shiftT, shiftTs]
theorem shiftT_bool (vs : Nat) : shiftT vs (.mk { data := #[98, 111, 111, 108] } 0 []) = .mk { data := #[98, 111, 111, 108] } 0 [] := by simp [shiftT, shiftTs]
theorem shiftT_list (vs : Nat) (a : Ty) : shiftT vs (.mk { data := #[108, 105, 115, 116] } 0 [a]) = .mk { data := #[108, 105, 115, 116] } 0 [shiftT vs a] := by simp [shiftT, shiftTs]
theorem shiftT_pair (vs : Nat) (a c : Ty) : shiftT vs (.mk { data := #[112, 97, 105, 114] } 0 [a, c]) = .mk { data := #[112, 97, 105, 114] } 0 [shiftT vs a, shiftT vs c] := by simp [shiftT, shiftTs]
theorem shiftT_fn (vs : Nat) (a c : Ty) : shiftT vs (.mk { data := #[102, 117, 110] } 0 [a, c]) = .mk { data := #[102, 117, 110] } 0 [shiftT vs a, shiftT vs c] := by simp [shiftT, shiftTs]
theorem shiftT_zero {m : Nat} {t : Ty} (h : WT m t) : shiftT 0 t = t := by
  induction h with
  | var n hn => rw [shiftT_var, Nat.zero_add]
  | int => exact shiftT_int 0
  | bool => exact shiftT_bool 0
  | list a _ ih => rw [shiftT_list, ih]
  | pair a b _ _ ih ih2 => rw [shiftT_pair, ih, ih2]
  | fn a b _ _ ih ih2 => rw [shiftT_fn, ih, ih2]
theorem addT_pre (vs : Nat) {m : Nat} {t : Ty} (h : WT m t) : ∀ τ, ∃ u, (addT vs t τ).2 = τ ++ u := by
  induction h with
  | var n hn => intro τ; rw [addT_var]; exact ⟨[], by simp⟩
  | int => intro τ; rw [addT_int]; exact ⟨[], by simp⟩
  | bool => intro τ; rw [addT_bool]; exact ⟨[], by simp⟩
  | list a _ ih =>
    intro τ
    obtain ⟨u, hu⟩ := ih τ
    rw [addT_list]
    exact ⟨u ++ [⟨.ls (addT vs a τ).1, none⟩], by rw [← List.append_assoc, ← hu]⟩
  | pair a b _ _ ih ih2 =>
    intro τ
    obtain ⟨u, hu⟩ := ih τ
    obtain ⟨u2, hu2⟩ := ih2 (addT vs a τ).2
    rw [addT_pair]
    exact ⟨u ++ u2 ++ [⟨.pr (addT vs a τ).1 (addT vs b (addT vs a τ).2).1, none⟩], by rw [← List.append_assoc, ← List.append_assoc, ← hu, ← hu2]⟩
  | fn a b _ _ ih ih2 =>
    intro τ
    obtain ⟨u, hu⟩ := ih τ
    obtain ⟨u2, hu2⟩ := ih2 (addT vs a τ).2
    rw [addT_fn]
    exact ⟨u ++ u2 ++ [⟨.ar (addT vs a τ).1 (addT vs b (addT vs a τ).2).1, none⟩], by rw [← List.append_assoc, ← List.append_assoc, ← hu, ← hu2]⟩
theorem st_up {σ : St} {i : Nat} {x : Nd} (h : σ[i]? = some x) (u : St) : (σ ++ u)[i]? = some x := by
  rw [List.getElem?_append_left (List.getElem?_eq_some_iff.1 h).1]
  exact h
theorem Dn.up {σ : St} {r : TR} {t : Ty} (h : Dn σ r t) (u : St) : Dn (σ ++ u) r t := by
  induction h with
  | int r h => exact .int r (h.up u)
  | bool r h => exact .bool r (h.up u)
  | var r i h => exact .var r i (h.up u)
  | list r i x a h h1 _ ih => exact .list r i x a (h.up u) (st_up h1 u) ih
  | pair r i x y a c h h1 _ _ ih ih2 => exact .pair r i x y a c (h.up u) (st_up h1 u) ih ih2
  | fn r i x y a c h h1 _ _ ih ih2 => exact .fn r i x y a c (h.up u) (st_up h1 u) ih ih2
/-- what was read is that tree. -/
theorem Dn.addT (vs : Nat) {m : Nat} {t : Ty} (h : WT m t) : ∀ τ : St, (∀ n, n < m → ∃ nm g, τ[vs + n]? = some ⟨.vr nm g, none⟩) → Dn (Go.Proofs.YtleenphlgbklmabGreatDoor.addT vs t τ).2 (Go.Proofs.YtleenphlgbklmabGreatDoor.addT vs t τ).1 (shiftT vs t) := by
  induction h with
  | var n hn =>
    intro τ hv
    rw [addT_var, shiftT_var]
    obtain ⟨nm, g, e⟩ := hv n hn
    exact .var _ _ (.root (vs + n) (.vr nm g) e)
  | int => intro τ hv; rw [addT_int, shiftT_int]; exact .int _ .int
  | bool => intro τ hv; rw [addT_bool, shiftT_bool]; exact .bool _ .bool
  | list a ha ih =>
    intro τ hv
    have h1 := ih τ hv
    rw [addT_list, shiftT_list]
    have e : ((Go.Proofs.YtleenphlgbklmabGreatDoor.addT vs a τ).2 ++ [(⟨.ls (Go.Proofs.YtleenphlgbklmabGreatDoor.addT vs a τ).1, none⟩ : Nd)])[(Go.Proofs.YtleenphlgbklmabGreatDoor.addT vs a τ).2.length]? = some ⟨.ls (Go.Proofs.YtleenphlgbklmabGreatDoor.addT vs a τ).1, none⟩ := by simp
    exact .list _ _ _ _ (.root _ (.ls _) e) e (h1.up _)
  | pair a b ha hb ih ih2 =>
    intro τ hv
    have h1 := ih τ hv
    obtain ⟨u, hu⟩ := addT_pre vs ha τ
    have h2 := ih2 (Go.Proofs.YtleenphlgbklmabGreatDoor.addT vs a τ).2 (fun n hn => by
      obtain ⟨nm, g, e⟩ := hv n hn
      exact ⟨nm, g, by rw [hu]; exact st_up e u⟩)
    obtain ⟨u2, hu2⟩ := addT_pre vs hb (Go.Proofs.YtleenphlgbklmabGreatDoor.addT vs a τ).2
    rw [addT_pair, shiftT_pair]
    have e : ((Go.Proofs.YtleenphlgbklmabGreatDoor.addT vs b (Go.Proofs.YtleenphlgbklmabGreatDoor.addT vs a τ).2).2 ++ [(⟨.pr (Go.Proofs.YtleenphlgbklmabGreatDoor.addT vs a τ).1 (Go.Proofs.YtleenphlgbklmabGreatDoor.addT vs b (Go.Proofs.YtleenphlgbklmabGreatDoor.addT vs a τ).2).1, none⟩ : Nd)])[(Go.Proofs.YtleenphlgbklmabGreatDoor.addT vs b (Go.Proofs.YtleenphlgbklmabGreatDoor.addT vs a τ).2).2.length]? = some ⟨.pr (Go.Proofs.YtleenphlgbklmabGreatDoor.addT vs a τ).1 (Go.Proofs.YtleenphlgbklmabGreatDoor.addT vs b (Go.Proofs.YtleenphlgbklmabGreatDoor.addT vs a τ).2).1, none⟩ := by simp
    refine .pair _ _ _ _ _ _ (.root _ (.pr _ _) e) e ?_ (h2.up _)
    have := (h1.up u2).up [(⟨.pr (Go.Proofs.YtleenphlgbklmabGreatDoor.addT vs a τ).1 (Go.Proofs.YtleenphlgbklmabGreatDoor.addT vs b (Go.Proofs.YtleenphlgbklmabGreatDoor.addT vs a τ).2).1, none⟩ : Nd)]
    rw [← hu2] at this
    exact this
  | fn a b ha hb ih ih2 =>
    intro τ hv
    have h1 := ih τ hv
    obtain ⟨u, hu⟩ := addT_pre vs ha τ
    have h2 := ih2 (Go.Proofs.YtleenphlgbklmabGreatDoor.addT vs a τ).2 (fun n hn => by
      obtain ⟨nm, g, e⟩ := hv n hn
      exact ⟨nm, g, by rw [hu]; exact st_up e u⟩)
    obtain ⟨u2, hu2⟩ := addT_pre vs hb (Go.Proofs.YtleenphlgbklmabGreatDoor.addT vs a τ).2
    rw [addT_fn, shiftT_fn]
    have e : ((Go.Proofs.YtleenphlgbklmabGreatDoor.addT vs b (Go.Proofs.YtleenphlgbklmabGreatDoor.addT vs a τ).2).2 ++ [(⟨.ar (Go.Proofs.YtleenphlgbklmabGreatDoor.addT vs a τ).1 (Go.Proofs.YtleenphlgbklmabGreatDoor.addT vs b (Go.Proofs.YtleenphlgbklmabGreatDoor.addT vs a τ).2).1, none⟩ : Nd)])[(Go.Proofs.YtleenphlgbklmabGreatDoor.addT vs b (Go.Proofs.YtleenphlgbklmabGreatDoor.addT vs a τ).2).2.length]? = some ⟨.ar (Go.Proofs.YtleenphlgbklmabGreatDoor.addT vs a τ).1 (Go.Proofs.YtleenphlgbklmabGreatDoor.addT vs b (Go.Proofs.YtleenphlgbklmabGreatDoor.addT vs a τ).2).1, none⟩ := by simp
    refine .fn _ _ _ _ _ _ (.root _ (.ar _ _) e) e ?_ (h2.up _)
    have := (h1.up u2).up [(⟨.ar (Go.Proofs.YtleenphlgbklmabGreatDoor.addT vs a τ).1 (Go.Proofs.YtleenphlgbklmabGreatDoor.addT vs b (Go.Proofs.YtleenphlgbklmabGreatDoor.addT vs a τ).2).1, none⟩ : Nd)]
    rw [← hu2] at this
    exact this
theorem PTyR.wt {w : World} {vb : List Nat} {lo hi : Nat} {t : Ty} {v : Value} (h : PTyR w vb lo hi t v) : WT vb.length t := by
  induction h with
  | var n b lo hi _ hb => exact .var n (List.getElem?_eq_some_iff.1 hb).1
  | base kd lo hi _ hk => rcases hk with rfl | rfl; exact .int; exact .bool
  | list a b p lo m hi hb ha _ _ ih => exact .list a ih
  | pair a c b p q lo m k hi hb ha hc _ _ ih ih2 => exact .pair a c ih ih2
  | fn a c b p q lo m k hi hb ha hc _ _ ih ih2 => exact .fn a c ih ih2
/-- a type that was read, as a store of its own. -/
theorem read_store {w : World} {vb : List Nat} {lo hi : Nat} {t : Ty} {v : Value} {names : List ByteArray} (h : PTyR w vb lo hi t v) (hn : NB w vb names) (hd : vb.Nodup) (hfr : ∀ c, c ∈ vb → lo ≤ c) : ∃ ad, (∀ c, c ∈ ad → lo ≤ c) ∧ SX w ad (Go.Proofs.YtleenphlgbklmabGreatDoor.addT 0 t (vrs names)).2 ∧ RV ad (Go.Proofs.YtleenphlgbklmabGreatDoor.addT 0 t (vrs names)).1 v ∧ Dn (Go.Proofs.YtleenphlgbklmabGreatDoor.addT 0 t (vrs names)).2 (Go.Proofs.YtleenphlgbklmabGreatDoor.addT 0 t (vrs names)).1 t := by
  have h0 : SW w [] [] := ⟨rfl, List.nodup_nil, fun i nk s b hi => by simp at hi⟩
  have h1 := SW.vars names h0 hn.1 hn.2 hd (fun c _ z => by simp at z)
  simp only [List.nil_append] at h1
  obtain ⟨bl, s1, r1, hbl⟩ := SW.adopt h 0 vb (vrs names) h1 (fun n b hb => by simpa using hb) (fun c hc => .inl (by
    obtain ⟨j, hj, rfl⟩ := List.getElem_of_mem hc
    have := hn.2 j (hn.1 ▸ hj)
    have e : vb.getD j 0 = vb[j] := by simp [List.getD, hj]
    rw [e] at this
    exact ⟨_, _, this⟩))
  refine ⟨vb ++ bl, fun c hc => ?_, ⟨_, s1, Ev.refl _⟩, r1, ?_⟩
  · simp at hc
    rcases hc with hc | hc
    · exact hfr c hc
    · exact (hbl c hc).1
  have := Dn.addT 0 h.wt (vrs names) (fun n hlt => by
    refine ⟨names.getD n { data := #[] }, false, ?_⟩
    have : n < names.length := hn.1 ▸ hlt
    simp [vrs, this])
  rw [shiftT_zero h.wt] at this
  exact this
end Go.Proofs.YtleenphlgbklmabGreatDoor

namespace Go.Proofs.YtleenphlgbklmabGreatDoor
open Go.RowKit

theorem cnA_short (ns : List Nat) (m q : Nat) : ∀ x, x ∈ cnA ns m q → x.size ≤ 900 := by
  induction q with
  | zero =>
    intro x hx
    simp [cnA] at hx
    rw [hx.2]
    decide
  | succ q ih =>
    intro x hx
    rcases List.mem_or_eq_of_mem_set hx with h | h
    · exact ih x h
    · rw [h]; have := letM_size q; omega
theorem cnN_short (L : List Nat) (n : Nat) : ((cnN L).getD n { data := #[] }).size ≤ 900 := by
  by_cases h : n < (cnN L).length
  · have : (cnN L).getD n { data := #[] } ∈ cnN L := by simp [List.getD, h]
    exact cnA_short _ _ _ _ this
  · have : (cnN L).getD n { data := #[] } = { data := #[] } := by simp [List.getD, h]
    rw [this]
    decide
/-- showType, with names in order. -/
theorem show_num (w : World) (nb mb : Nat) (ad : List Nat) (σ : St) (r : TR) (t : Ty) (v : Value) (hs : SX w ad σ) (hv : RV ad r v) (hd : Dn σ r t) (hsz : sz t ≤ 260) (hnb : w.heap[nb]? = some (.cells #[.map (some mb)] 123 (0, 0))) (hm : w.heap[mb]? = some (.map #[] 0)) :
    Calls Tryz.prog 36 #[v, .func (.func 57) #[] #[.pointer (some ⟨nb, 0, none⟩)]] w fun e w' => e = .returned (.string (canT t)) ∧ SX w' ad σ ∧ Kt ad (· = mb) w w' := by
  have hnd : (varsM t []).Nodup := varsM_nodup hd.wt [] List.nodup_nil
  have hL : (varsM t []).length ≤ 260 := by have := (varsM_len t []).2; simp at this; omega
  have hmb := lt_of_block hm
  refine show_any w v ad σ r t 57 #[.pointer (some ⟨nb, 0, none⟩)] (cnN (varsM t [])) (NOk ad σ w.heap.size nb mb) (· = mb) (varsM t []) hs hv hd ⟨hnb, lt_of_block hnb, hmb, by simpa [nFrom] using hm, by simp⟩ (NOk.okk _ _ _ _ _) (fun q hq => by rw [show q = mb from hq]; exact hmb) (cnN_short _) ?_ (List.prefix_refl _) (by omega)
  intro b pm i nm g hi
  exact first_num ad σ w.heap.size b pm nb mb _ ⟨NOk.okk _ _ _ _ _, (fun q hq => by rw [show q = mb from hq]; exact hmb), cnN_short _⟩ hnd hL i nm g hi
end Go.Proofs.YtleenphlgbklmabGreatDoor
