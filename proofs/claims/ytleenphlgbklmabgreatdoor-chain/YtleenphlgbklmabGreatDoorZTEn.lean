import Derived.Test.YtleenphlgbklmabGreatDoorZPNio
import Derived.Test.YtleenphlgbklmabGreatDoorZTxE
import Derived.Test.YtleenphlgbklmabGreatDoorZPEq
set_option linter.unusedVariables false
set_option linter.unusedSimpArgs false
namespace Go.Proofs.YtleenphlgbklmabGreatDoor
open Go.RowKit

theorem cnN_get {l L : List Nat} (hp : l <+: L) (hd : L.Nodup) {j n : Nat} (h : l[j]? = some n) : (cnN L).getD n { data := #[] } = letM j := by
  have hj : j < l.length := (List.getElem?_eq_some_iff.1 h).1
  have hL : L[j]? = some n := by
    obtain ⟨r, rfl⟩ := hp
    rw [List.getElem?_append_left hj]
    exact h
  have hjL := (List.getElem?_eq_some_iff.1 hL).1
  have := cnA_get L (mxL L) hd (fun x hx => mxL_mem hx) L.length (Nat.le_refl _) j hjL
  have e : L.getD j 0 = n := by simp [List.getD, hL]
  rw [e] at this
  exact this
theorem idx_map (f : Nat → Nat) (n : Nat) (l : List Nat) (hf : ∀ x, x ∈ l → f n = f x → n = x) : (l.map f).findIdx? (fun x => f n == x) = l.findIdx? (fun x => n == x) := by
  induction l with
  | nil => rfl
  | cons a l ih =>
    have hi := ih (fun x hx => hf x (by simp [hx]))
    have e : (f n == f a) = (n == a) := by
      rw [Bool.eq_iff_iff, beq_iff_eq, beq_iff_eq]
      exact ⟨fun z => hf a List.mem_cons_self z, fun z => by rw [z]⟩
    simp only [List.map_cons, List.findIdx?_cons, hi, e]
theorem idx_some {l : List Nat} {n j : Nat} (h : l.findIdx? (fun x => n == x) = some j) : l[j]? = some n := by
  obtain ⟨hj, e, _⟩ := List.findIdx?_eq_some_iff_getElem.1 h
  rw [List.getElem?_eq_getElem hj]
  have := beq_iff_eq.1 e
  rw [← this]
theorem idx_none {l : List Nat} {n : Nat} (h : l.findIdx? (fun x => n == x) = none) : ¬ n ∈ l := by
  intro hm
  have := (List.findIdx?_eq_none_iff.1 h) n hm
  simp at this
/-- names in order: the numbers of the variables come to. -/
structure NOk (ad : List Nat) (σ : St) (B nb mb : Nat) (w : World) (l : List Nat) : Prop where
  nbc : w.heap[nb]? = some (.cells #[.map (some mb)] 123 (0, 0))
  nbB : nb < B
  mbB : mb < B
  mp : w.heap[mb]? = some (.map (nFrom (l.map fun n => ad.getD n 0) 0).toArray l.length)
  vr : ∀ n, n ∈ l → ∃ nm g s, σ[n]? = some ⟨.vr nm g, s⟩
theorem NOk.okk (ad : List Nat) (σ : St) (B nb mb : Nat) : OkK ad B (NOk ad σ B nb mb) := by
  intro w w' l h k
  refine ⟨k.blk _ _ h.nbc (fun z => by have z : B ≤ nb := z; have := h.nbB; omega) ?_, h.nbB, h.mbB, k.blk _ _ h.mp (fun z => by have z : B ≤ mb := z; have := h.mbB; omega) ?_, h.vr⟩
  · rintro ⟨cs, e, f, he, ht⟩
    simp only [Obj.cells.injEq] at he
    obtain ⟨_, rfl, _⟩ := he
    rcases ht with e | e | e | e <;> cases e
  · rintro ⟨cs, e, f, he, _⟩
    cases he
theorem SX.vbk {w : World} {ad : List Nat} {σ : St} (h : SX w ad σ) {n : Nat} {nm : ByteArray} {g : Bool} {s : Option TR} (hn : σ[n]? = some ⟨.vr nm g, s⟩) : ∃ c, ad[n]? = some c ∧ VBk w c := by
  obtain ⟨τ, h1, h2⟩ := h
  obtain ⟨s', h3, _⟩ := h2.kk n _ _ hn
  have hlt := (List.getElem?_eq_some_iff.1 h3).1
  have hlt : n < ad.length := by rw [h1.len]; exact hlt
  obtain ⟨sv, o, h4, _, h5⟩ := h1.blk n _ _ (ad[n]) h3 (by simp)
  refine ⟨ad[n], by simp, #[sv, .string nm, .bool g], ?_⟩
  rw [h4]
  exact congrArg some h5
/-- a writing with names in order. -/
def WO (ad : List Nat) (σ : St) (B b pm nb mb : Nat) (L : List Nat) : WE := ⟨ad, σ, B, b, pm, .func (.func 57) #[] #[.pointer (some ⟨nb, 0, none⟩)], cnN L, NOk ad σ B nb mb, (· = mb), L⟩
section
variable {ad : List Nat} {σ : St} {B b pm nb mb : Nat} {L : List Nat}
theorem num_step {w : World} {l : List Nat} {sp : List Sp} {es : List (TR × Nat × Nat)} (h : (WO ad σ B b pm nb mb L).TX w l sp es) (n c : Nat) (nm : ByteArray) (g : Bool) (s : Option TR) (hn : σ[n]? = some ⟨.vr nm g, s⟩) (hc : ad[n]? = some c) (hL : L.length ≤ 260) (hp : varsM (.mk { data := #[] } n []) l <+: L) :
    Calls Tryz.prog 57 #[.pointer (some ⟨c, 0, none⟩), .pointer (some ⟨nb, 0, none⟩)] w fun e w' => ∃ j, e = .returned (.string (letM j)) ∧ (WO ad σ B b pm nb mb L).TX w' (varsM (.mk { data := #[] } n []) l) sp es ∧ Kt ad (SN B (· = mb)) w w' ∧ (varsM (.mk { data := #[] } n []) l)[j]? = some n := by
  have hN : NOk ad σ B nb mb w l := h.ns
  have h260 := Nat.le_trans hp.length_le hL
  have hl : l <+: varsM (.mk { data := #[] } n []) l := varsM_pre (m := n + 1) (.var n (by omega)) l
  have gd : ∀ x, x ∈ l → ∃ q, ad[x]? = some q ∧ VBk w q := fun x hx => by
    obtain ⟨nm, g, s, hx⟩ := hN.vr x hx
    exact SX.vbk h.st hx
  have hgc : ad.getD n 0 = c := by simp [List.getD, hc]
  have hst : SX w ad σ := h.st
  obtain ⟨τ, hsw, _⟩ := hst
  have hinj : ∀ x, x ∈ l → ad.getD n 0 = ad.getD x 0 → n = x := fun x hx e => by
    obtain ⟨q, hq, _⟩ := gd x hx
    have e2 : ad.getD x 0 = q := by simp [List.getD, hq]
    rw [hgc, e2] at e
    subst e
    exact nodup_get hsw.inj hc hq
  have hV : VBk w c := by
    obtain ⟨c', h1, h2⟩ := SX.vbk h.st hn
    have h1 : ad[n]? = some c' := h1
    rw [hc] at h1
    simp at h1
    subst h1
    exact h2
  have hNM : NM w mb (l.map fun n => ad.getD n 0) := ⟨by rw [hN.mp]; simp, fun q hq => by
    obtain ⟨x, hx, rfl⟩ := List.mem_map.1 hq
    obtain ⟨q, hq, hb⟩ := gd x hx
    have : ad.getD x 0 = q := by simp [List.getD, hq]
    rw [this]
    exact hb⟩
  have hc0 : w.cell? ⟨nb, 0, none⟩ = some (.map (some mb)) := by simp [World.cell?, hN.nbc]
  have hi := idx_map (fun n => ad.getD n 0) n l hinj
  simp only [hgc] at hi
  have hvl := varsM_leaf n l
  cases hj : l.findIdx? (fun x => n == x) with
  | some j =>
    have hjs := idx_some hj
    have hin : inB l n = true := List.contains_iff_mem.2 (List.mem_of_getElem? hjs)
    have hjl := (List.getElem?_eq_some_iff.1 hjs).1
    rw [hin] at hvl
    simp only [if_true] at hvl
    rw [hvl] at h260 ⊢
    refine (pnum_old w nb mb _ _ hc0 hNM hV j (hi.trans hj) (by omega)).mono ?_
    rintro e w' ⟨rfl, hww⟩
    subst hww
    exact ⟨j, rfl, h, Kt.refl _ _ _, hjs⟩
  | none =>
    have hin : inB l n = false := by
      rw [Bool.eq_false_iff]
      exact fun z => idx_none hj (List.contains_iff_mem.1 z)
    rw [hin] at hvl
    simp only [Bool.false_eq_true, if_false] at hvl
    rw [hvl] at h260 hl ⊢
    simp at h260
    refine (pnum_new w nb mb _ _ hc0 hNM hV (hi.trans hj) (by simp; omega)).mono ?_
    rintro e w' ⟨rfl, hM, hk⟩
    have hmp := hN.mp
    have hB := h.bs
    have hkt : Kt ad (· = mb) w w' := Kt.of_kp hk
    have hne : nb ≠ mb := fun z => by
      have a := hN.nbc
      rw [z, hmp] at a
      cases a
    refine ⟨l.length, by simp, ⟨TL.kt h.tl hkt (fun q hq => by rw [show q = mb from hq]; exact hN.mbB), TMp.kt h.mp hkt (fun z => by have := h.pB; have z : pm = mb := z; have := hN.mbB; have : B ≤ pm := h.pB; omega), h.st.keep (fun a o ha hb => hk.blk hb (fun z => ?_)), ⟨hk.blk hN.nbc hne, hN.nbB, hN.mbB, ?_, ?_⟩, Nat.le_trans hB hk.size, h.pB, h.adB, ?_⟩, hkt.mono (fun q _ hq => .inr hq), by simp⟩
    · obtain ⟨o', h1, cs, ty, f, rfl, _⟩ := hsw.tb ha
      rw [show a = mb from z, hmp] at h1
      cases h1
    · have := hM.mp
      rw [this, List.map_append]
      simp only [List.map_cons, List.map_nil, hgc, List.length_append, List.length_map, List.length_cons, List.length_nil]
    · intro x hx
      simp at hx
      rcases hx with hx | rfl
      · exact hN.vr x hx
      · exact ⟨nm, g, s, hn⟩
    · intro e he
      obtain ⟨T, q1, q2, q3, q4, q5⟩ := h.pcs e he
      exact ⟨T, q1, q2, q3, q4, varsM_idem q1.wt l _ (by rw [q5]; exact hl)⟩
end
theorem letM_pos (n : Nat) : 0 < (letM n).size := by
  unfold letM
  split
  · simp [bytesN, ByteArray.size]
  · simp [bytesN, ByteArray.size]
set_option maxRecDepth 20000 in
set_option maxHeartbeats 1000000 in
theorem first_num (ad : List Nat) (σ : St) (B b pm nb mb : Nat) (L : List Nat) (hE : (WO ad σ B b pm nb mb L).Ok) (hd : L.Nodup) (hL : L.length ≤ 260) (n : Nat) (nm : ByteArray) (g : Bool) (hnd : σ[n]? = some ⟨.vr nm g, none⟩) : SFst (WO ad σ B b pm nb mb L) (.nd .vr n) (.mk { data := #[] } n []) := by
  intro w v l sp es hv h hp hn hl
  have hsz : sz (.mk { data := #[] } n []) = 1 := by simp [sz, szs]
  rw [hsz] at hn hl ⊢
  obtain ⟨c, hc, rfl⟩ := hv
  have hc : ad[n]? = some c := hc
  rw [show Kd.vr.tp = 124 from rfl]
  show Calls Tryz.prog 126 #[.pointer (some ⟨b, 0, none⟩), _] w _
  have HN : Hid _ := num_step h n c nm g none hnd hc hL hp
  have HS : Hid (∀ (w' : World) (j : Nat), (WO ad σ B b pm nb mb L).TX w' (varsM (.mk { data := #[] } n []) l) sp es → Calls Tryz.prog 157 #[.pointer (some ⟨b, 0, none⟩), .string (letM j)] w' fun e w'' => e = .returned (.tuple #[]) ∧ (WO ad σ B b pm nb mb L).TX w'' (varsM (.mk { data := #[] } n []) l) (sp ++ [.tk (letM j)]) es ∧ Kt ad (SN B (· = mb)) w' w'') := fun w' j hT => tok_step _ hE w' _ sp es hT (letM j) (letM_pos j) (by have := letM_size j; omega) (by omega)
  have t1 := Tryz.taVB (.pointer (some ⟨c, 0, none⟩)) w
  have t2 := Tryz.taVV (.pointer (some ⟨c, 0, none⟩)) w
  have c0 : w.cell? ⟨b, 0, none⟩ = some (.func (.func 57) #[] #[.pointer (some ⟨nb, 0, none⟩)]) := h.tl.c.1
  have HG : Hid (∀ j, (varsM (.mk { data := #[] } n []) l)[j]? = some n → shT (cnN L) (.mk { data := #[] } n []) = letM j) := fun j hj => (shT_var _ n).trans (cnN_get hp hd hj)
  clear h hp hnd hc
  go_enter Tryz.func126, Tryz.ntmps126
  go_wp2_with fail
  refine Calls.mono HN.out ?_
  rintro e w2 ⟨j, rfl, hT, hk, hj⟩
  have HS2 : Hid _ := HS.out w2 j hT
  clear HS HN hT
  go_wp2_with fail
  refine Calls.mono HS2.out ?_
  rintro e w3 ⟨rfl, hT3, hk3⟩
  go_wp2
  go_end0
  have e := HG.out j hj
  refine ⟨rfl, sp ++ [.tk (letM j)], es, hT3, ?_, ?_, by simp, fun e he => .inl he, hk.trans hk3⟩
  · show _ = decS sp ++ shT (cnN L) _
    rw [e, decS_tk]
  · rw [decS_tk_size]; have := letM_size j; omega
end Go.Proofs.YtleenphlgbklmabGreatDoor

namespace Go.Proofs.YtleenphlgbklmabGreatDoor
open Go.RowKit

/-- the variables of a type that was read. -/
def vrs (names : List ByteArray) : St := names.map fun n => ⟨.vr n false, none⟩
/-- a type that was read, as nodes behind those of the store: what it is, and the nodes. -/
def addT (vs : Nat) : Ty → St → TR × St
  | .mk kd n kids, σ =>
    if kd.data.toList == [] then (.nd .vr (vs + n), σ)
    else if kd.data.toList == ({ data := #[105, 110, 116] } : ByteArray).data.toList then (.int, σ)
    else if kd.data.toList == ({ data := #[98, 111, 111, 108] } : ByteArray).data.toList then (.bool, σ)
    else match kids with
      | [a] =>
        let p := addT vs a σ
        (.nd .ls p.2.length, p.2 ++ [⟨.ls p.1, none⟩])
      | [a, c] =>
        let p := addT vs a σ
        let q := addT vs c p.2
        if kd.data.toList == ({ data := #[112, 97, 105, 114] } : ByteArray).data.toList then (.nd .pr q.2.length, q.2 ++ [⟨.pr p.1 q.1, none⟩]) else (.nd .ar q.2.length, q.2 ++ [⟨.ar p.1 q.1, none⟩])
      | _ => (.int, σ)
theorem addT_var (vs n : Nat) (σ : St) : addT vs (.mk { data := #[] } n []) σ = (.nd .vr (vs + n), σ) := by simp [addT]
theorem addT_int (vs : Nat) (σ : St) : addT vs (.mk { data := #[105, 110, 116] } 0 []) σ = (.int, σ) := by simp [addT]
theorem addT_bool (vs : Nat) (σ : St) : addT vs (.mk { data := #[98, 111, 111, 108] } 0 []) σ = (.bool, σ) := by simp [addT]
theorem addT_list (vs : Nat) (a : Ty) (σ : St) : addT vs (.mk { data := #[108, 105, 115, 116] } 0 [a]) σ = (.nd .ls (addT vs a σ).2.length, (addT vs a σ).2 ++ [⟨.ls (addT vs a σ).1, none⟩]) := by rw [addT]; simp
theorem addT_pair (vs : Nat) (a c : Ty) (σ : St) : addT vs (.mk { data := #[112, 97, 105, 114] } 0 [a, c]) σ = (.nd .pr (addT vs c (addT vs a σ).2).2.length, (addT vs c (addT vs a σ).2).2 ++ [⟨.pr (addT vs a σ).1 (addT vs c (addT vs a σ).2).1, none⟩]) := by rw [addT]; simp
theorem addT_fn (vs : Nat) (a c : Ty) (σ : St) : addT vs (.mk { data := #[102, 117, 110] } 0 [a, c]) σ = (.nd .ar (addT vs c (addT vs a σ).2).2.length, (addT vs c (addT vs a σ).2).2 ++ [⟨.ar (addT vs a σ).1 (addT vs c (addT vs a σ).2).1, none⟩]) := by rw [addT]; simp
/-- a node more, at a new block. -/
theorem SW.add {w : World} {ad : List Nat} {τ : St} (h : SW w ad τ) {b : Nat} (hb : ¬ b ∈ ad) {nk : NK} {o : Obj} (ho : w.heap[b]? = some o) (hn : NBk ad nk .nilIface o) : SW w (ad ++ [b]) (τ ++ [⟨nk, none⟩]) := by
  refine ⟨by simp [h.len], ?_, ?_⟩
  · refine List.nodup_append.2 ⟨h.inj, by simp, ?_⟩
    intro x hx y hy e
    simp at hy
    subst hy
    subst e
    exact hb hx
  · intro i mk s c hi hc
    by_cases e : i < τ.length
    · rw [List.getElem?_append_left e] at hi
      rw [List.getElem?_append_left (by rw [h.len]; exact e)] at hc
      obtain ⟨sv, o', h1, h2, h3⟩ := h.blk i mk s c hi hc
      exact ⟨sv, o', h1, h2.up _, h3.up _⟩
    · have e2 : i = τ.length := by
        have := (List.getElem?_eq_some_iff.1 hi).1
        simp at this
        omega
      subst e2
      rw [← h.len] at hc
      simp at hi hc
      obtain ⟨rfl, rfl⟩ := hi
      subst hc
      exact ⟨.nilIface, o, ho, rfl, hn.up _⟩
theorem SW.vars {w : World} (names : List ByteArray) : ∀ {ad : List Nat} {τ : St} {vb : List Nat}, SW w ad τ → vb.length = names.length → (∀ j, j < names.length → w.heap[vb.getD j 0]? = some (.cells #[.nilIface, .string (names.getD j { data := #[] }), .bool false] 148 (0, 0))) → vb.Nodup → (∀ c, c ∈ vb → ¬ c ∈ ad) → SW w (ad ++ vb) (τ ++ vrs names) := by
  induction names with
  | nil =>
    intro ad τ vb h hl _ _ _
    have : vb = [] := List.eq_nil_of_length_eq_zero (by simpa using hl)
    subst this
    simpa [vrs] using h
  | cons n names ih =>
    intro ad τ vb h hl hv hd hn
    cases vb with
    | nil => simp at hl
    | cons b vb =>
      have h0 := hv 0 (by simp)
      have h1 := h.add (hn b (by simp)) (nk := .vr n false) h0 rfl
      have := ih (vb := vb) h1 (by simpa using hl) (fun j hj => by
        have := hv (j + 1) (by simp; omega)
        simpa using this) (List.nodup_cons.1 hd).2 (fun c hc z => by
        simp at z
        rcases z with z | z
        · exact hn c (by simp [hc]) z
        · subst z
          exact (List.nodup_cons.1 hd).1 hc)
      simpa [vrs, List.append_assoc] using this
/-- a type that was read joins the store. -/
theorem SW.adopt {w : World} {vb : List Nat} {lo hi : Nat} {t : Ty} {v : Value} (h : PTyR w vb lo hi t v) : ∀ (vs : Nat) (ad : List Nat) (τ : St), SW w ad τ → (∀ n b, vb[n]? = some b → ad[vs + n]? = some b) → (∀ c, c ∈ ad → (∃ cs f, w.heap[c]? = some (.cells cs 148 f)) ∨ c < lo) →
    ∃ bl, SW w (ad ++ bl) (addT vs t τ).2 ∧ RV (ad ++ bl) (addT vs t τ).1 v ∧ (∀ c, c ∈ bl → lo ≤ c ∧ c < hi) := by
  induction h with
  | var n b lo hi h1 hb =>
    intro vs ad τ hs hv hlo
    rw [addT_var]
    exact ⟨[], by simpa using hs, ⟨b, by simpa using hv n b hb, rfl⟩, by simp⟩
  | base kd lo hi h1 hk =>
    intro vs ad τ hs hv hlo
    rcases hk with rfl | rfl
    · rw [addT_int]
      exact ⟨[], by simpa using hs, rfl, by simp⟩
    · rw [addT_bool]
      exact ⟨[], by simpa using hs, rfl, by simp⟩
  | list a b p lo m hi hb ha h1 h2 ih =>
    intro vs ad τ hs hv hlo
    obtain ⟨bl, s1, r1, q1⟩ := ih vs ad τ hs hv hlo
    have hm := ha.le
    rw [addT_list]
    have hnb : ¬ b ∈ ad ++ bl := fun z => by
      simp at z
      rcases z with z | z
      · rcases hlo b z with ⟨cs, f, e⟩ | e
        · rw [hb] at e
          simp at e
        · omega
      · have := q1 b z
        omega
    refine ⟨bl ++ [b], ?_, ?_, ?_⟩
    · rw [← List.append_assoc]
      exact s1.add hnb hb ⟨p, r1, rfl⟩
    · refine ⟨b, ?_, rfl⟩
      rw [← List.append_assoc, ← s1.len]
      simp
    · intro c hc
      simp at hc
      rcases hc with hc | rfl
      · have := q1 c hc
        omega
      · omega
  | pair a c b p q lo m k hi hb ha hc h1 h2 ih ih2 =>
    intro vs ad τ hs hv hlo
    obtain ⟨bl, s1, r1, q1⟩ := ih vs ad τ hs hv hlo
    have hm := ha.le
    have hmk := hc.le
    obtain ⟨bl2, s2, r2, q2⟩ := ih2 vs (ad ++ bl) _ s1 (fun n b hb => by rw [List.getElem?_append_left (List.getElem?_eq_some_iff.1 (hv n b hb)).1]; exact hv n b hb) (fun x hx => by
      simp at hx
      rcases hx with hx | hx
      · rcases hlo x hx with e | e
        · exact .inl e
        · exact .inr (by omega)
      · exact .inr (q1 x hx).2)
    rw [addT_pair]
    have hnb : ¬ b ∈ ad ++ bl ++ bl2 := fun z => by
      simp at z
      rcases z with z | z | z
      · rcases hlo b z with ⟨cs, f, e⟩ | e
        · rw [hb] at e
          simp at e
        · omega
      · have := q1 b z
        omega
      · have := q2 b z
        omega
    refine ⟨bl ++ bl2 ++ [b], ?_, ?_, ?_⟩
    · have := s2.add hnb hb (nk := .pr (addT vs a τ).1 (addT vs c (addT vs a τ).2).1) ⟨p, q, r1.up _, r2, rfl⟩
      simpa [List.append_assoc] using this
    · refine ⟨b, ?_, rfl⟩
      rw [← s2.len]
      simp [List.append_assoc]
    · intro x hx
      simp at hx
      rcases hx with hx | hx | rfl
      · have := q1 x hx
        omega
      · have := q2 x hx
        omega
      · omega
  | fn a c b p q lo m k hi hb ha hc h1 h2 ih ih2 =>
    intro vs ad τ hs hv hlo
    obtain ⟨bl, s1, r1, q1⟩ := ih vs ad τ hs hv hlo
    have hm := ha.le
    have hmk := hc.le
    obtain ⟨bl2, s2, r2, q2⟩ := ih2 vs (ad ++ bl) _ s1 (fun n b hb => by rw [List.getElem?_append_left (List.getElem?_eq_some_iff.1 (hv n b hb)).1]; exact hv n b hb) (fun x hx => by
      simp at hx
      rcases hx with hx | hx
      · rcases hlo x hx with e | e
        · exact .inl e
        · exact .inr (by omega)
      · exact .inr (q1 x hx).2)
    rw [addT_fn]
    have hnb : ¬ b ∈ ad ++ bl ++ bl2 := fun z => by
      simp at z
      rcases z with z | z | z
      · rcases hlo b z with ⟨cs, f, e⟩ | e
        · rw [hb] at e
          simp at e
        · omega
      · have := q1 b z
        omega
      · have := q2 b z
        omega
    refine ⟨bl ++ bl2 ++ [b], ?_, ?_, ?_⟩
    · have := s2.add hnb hb (nk := .ar (addT vs a τ).1 (addT vs c (addT vs a τ).2).1) ⟨p, q, r1.up _, r2, rfl⟩
      simpa [List.append_assoc] using this
    · refine ⟨b, ?_, rfl⟩
      rw [← s2.len]
      simp [List.append_assoc]
    · intro x hx
      simp at hx
      rcases hx with hx | hx | rfl
      · have := q1 x hx
        omega
      · have := q2 x hx
        omega
      · omega
theorem st_up {σ : St} {i : Nat} {x : Nd} (h : σ[i]? = some x) (u : St) : (σ ++ u)[i]? = some x := by
  rw [List.getElem?_append_left (List.getElem?_eq_some_iff.1 h).1]
  exact h
end Go.Proofs.YtleenphlgbklmabGreatDoor

namespace Go.Proofs.YtleenphlgbklmabGreatDoor
open Go.RowKit

theorem cnA_short (ns : List Nat) (m q : Nat) : ∀ x, x ∈ cnA ns m q → x.size ≤ 900 := by
  induction q with
  | zero =>
    intro x hx
    simp [cnA] at hx
    rw [hx.2]
    decide
  | succ q ih =>
    intro x hx
    rcases List.mem_or_eq_of_mem_set hx with h | h
    · exact ih x h
    · rw [h]; have := letM_size q; omega
theorem cnN_short (L : List Nat) (n : Nat) : ((cnN L).getD n { data := #[] }).size ≤ 900 := by
  by_cases h : n < (cnN L).length
  · have : (cnN L).getD n { data := #[] } ∈ cnN L := by simp [List.getD, h]
    exact cnA_short _ _ _ _ this
  · have : (cnN L).getD n { data := #[] } = { data := #[] } := by simp [List.getD, h]
    rw [this]
    decide
/-- showType, with names in order. -/
theorem show_num (w : World) (nb mb : Nat) (ad : List Nat) (σ : St) (r : TR) (t : Ty) (v : Value) (hs : SX w ad σ) (hv : RV ad r v) (hd : Dn σ r t) (hsz : sz t ≤ 260) (hnb : w.heap[nb]? = some (.cells #[.map (some mb)] 123 (0, 0))) (hm : w.heap[mb]? = some (.map #[] 0)) :
    Calls Tryz.prog 36 #[v, .func (.func 57) #[] #[.pointer (some ⟨nb, 0, none⟩)]] w fun e w' => e = .returned (.string (canT t)) ∧ SX w' ad σ ∧ Kt ad (· = mb) w w' := by
  have hnd : (varsM t []).Nodup := varsM_nodup hd.wt [] List.nodup_nil
  have hL : (varsM t []).length ≤ 260 := by have := (varsM_len t []).2; simp at this; omega
  have hmb := lt_of_block hm
  refine show_any w v ad σ r t 57 #[.pointer (some ⟨nb, 0, none⟩)] (cnN (varsM t [])) (NOk ad σ w.heap.size nb mb) (· = mb) (varsM t []) hs hv hd ⟨hnb, lt_of_block hnb, hmb, by simpa [nFrom] using hm, by simp⟩ (NOk.okk _ _ _ _ _) (fun q hq => by rw [show q = mb from hq]; exact hmb) (cnN_short _) ?_ (List.prefix_refl _) (by omega)
  intro b pm i nm g hi
  exact first_num ad σ w.heap.size b pm nb mb _ ⟨NOk.okk _ _ _ _ _, (fun q hq => by rw [show q = mb from hq]; exact hmb), cnN_short _⟩ hnd hL i nm g hi
end Go.Proofs.YtleenphlgbklmabGreatDoor

namespace Go.Proofs.YtleenphlgbklmabGreatDoor
open Go.RowKit

/-- an outcome: a value, or a refusal, by its number among the eight faults. -/
inductive Oc (α : Type) where
  | ok (a : α) | er (j : Nat)
/-- what a type was found to be. -/
def repF : Nat → St → TR → Option TR
  | 0, _, _ => none
  | _ + 1, _, .int => some .int
  | _ + 1, _, .bool => some .bool
  | n + 1, σ, .nd k i => match σ[i]? with
    | some ⟨nk, none⟩ => if k.eqb nk.kd then some (.nd k i) else none
    | some ⟨nk, some r⟩ => if k.eqb nk.kd then repF n σ r else none
    | none => none
theorem repF_rp : ∀ (n : Nat) {σ : St} {r r0 : TR}, repF n σ r = some r0 → Rp σ r r0 := by
  intro n
  induction n with
  | zero => intro σ r r0 h; simp [repF] at h
  | succ n ih =>
    intro σ r r0 h
    cases r with
    | int => simp [repF] at h; subst h; exact .int
    | bool => simp [repF] at h; subst h; exact .bool
    | nd k i =>
      simp only [repF] at h
      split at h
      · rename_i nk hi
        split at h
        · rename_i hk
          simp only [Option.some.injEq] at h
          have hk := Kd.eqb_iff.1 hk
          subst hk
          subst h
          exact .root i nk hi
        · simp at h
      · rename_i nk r hi
        split at h
        · rename_i hk
          have hk := Kd.eqb_iff.1 hk
          subst hk
          exact .step i nk r r0 hi (ih h)
        · simp at h
      · simp at h
/-- the types right below a type that is not found to be another. -/
def kidsF (σ : St) : TR → Option (List TR)
  | .nd _ i => match σ[i]? with
    | some ⟨.vr _ _, none⟩ => some []
    | some ⟨.ls x, none⟩ => some [x]
    | some ⟨.pr x y, none⟩ => some [x, y]
    | some ⟨.ar x y, none⟩ => some [x, y]
    | _ => none
  | _ => some []
def roomF : Nat → St → TR → Int → Option Int
  | 0, _, _, _ => none
  | n + 1, σ, r, room =>
    (repF 500 σ r).bind fun r0 => (kidsF σ r0).bind fun ks =>
    match ks with
    | [] => some (room - 1)
    | [x] => if room - 1 < 0 then some (room - 1) else roomF n σ x (room - 1)
    | [x, y] => if room - 1 < 0 then some (room - 1) else (roomF n σ x (room - 1)).bind fun a => if a < 0 then some a else roomF n σ y a
    | _ => none
def memT (r : TR) : List TR → Bool
  | [] => false
  | x :: l => r.eqb x || memT r l
def partsF : Nat → St → TR → List TR → Option (List TR)
  | 0, _, _, _ => none
  | n + 1, σ, r, l =>
    (repF 500 σ r).bind fun r0 => if memT r0 l then some l else (kidsF σ r0).bind fun ks =>
    match ks with
    | [] => some (l ++ [r0])
    | [x] => partsF n σ x (l ++ [r0])
    | [x, y] => (partsF n σ x (l ++ [r0])).bind fun l1 => partsF n σ y l1
    | _ => none
/-- a type that was not found to be another. -/
def rootF (σ : St) : TR → Bool
  | .nd k j => match σ[j]? with
    | some ⟨nk, none⟩ => k.eqb nk.kd
    | _ => false
  | _ => true
theorem rootF_rp {σ : St} {r : TR} (h : rootF σ r = true) : Rp σ r r := by
  cases r with
  | int => exact .int
  | bool => exact .bool
  | nd k j =>
    simp only [rootF] at h
    split at h
    · rename_i nk hj
      have := Kd.eqb_iff.1 h
      subst this
      exact .root j nk hj
    · simp at h
/-- a node was found to be another type. -/
def stF (σ : St) (i : Nat) (r : TR) : Option St := match σ[i]? with
  | some ⟨nk, none⟩ => if rootF σ r && !(TR.nd nk.kd i).eqb r then some (σ.set i ⟨nk, some r⟩) else none
  | _ => none
theorem stF_some {σ τ : St} {i : Nat} {r : TR} (h : stF σ i r = some τ) : ∃ nk, σ[i]? = some ⟨nk, none⟩ ∧ Rp σ r r ∧ TR.nd nk.kd i ≠ r ∧ τ = σ.set i ⟨nk, some r⟩ := by
  simp only [stF] at h
  split at h
  · rename_i nk hi
    split at h
    · rename_i hc
      simp only [Bool.and_eq_true, Bool.not_eq_true'] at hc
      simp only [Option.some.injEq] at h
      exact ⟨nk, hi, rootF_rp hc.1, TR.eqb_ff.1 hc.2, h.symm⟩
    · simp at h
  · simp at h
theorem rp_nd {σ : St} {k : Kd} {i : Nat} {b : TR} (h : Rp σ (.nd k i) b) : ∃ nk s, nk.kd = k ∧ σ[i]? = some ⟨nk, s⟩ := by
  generalize hx : TR.nd k i = x at h
  cases h with
  | int => cases hx
  | bool => cases hx
  | root j nk h =>
    simp only [TR.nd.injEq] at hx
    obtain ⟨rfl, rfl⟩ := hx
    exact ⟨nk, none, rfl, h⟩
  | step j nk r r0 h _ =>
    simp only [TR.nd.injEq] at hx
    obtain ⟨rfl, rfl⟩ := hx
    exact ⟨nk, some r, rfl, h⟩
section
variable {σ : St} {i : Nat} {nk : NK} {r : TR}
theorem root_set (hr : Rp σ r r) (hne : TR.nd nk.kd i ≠ r) (hi : σ[i]? = some ⟨nk, none⟩) : Rp (σ.set i ⟨nk, some r⟩) r r := by
  cases r with
  | int => exact .int
  | bool => exact .bool
  | nd k j =>
    obtain ⟨mk, rfl, hj⟩ := hr.rt
    refine .root j mk ?_
    rw [List.getElem?_set_ne (fun e => by subst e; rw [hi] at hj; simp at hj; subst hj; exact hne rfl)]
    exact hj
theorem rp_set (hi : σ[i]? = some ⟨nk, none⟩) (hr : Rp σ r r) (hne : TR.nd nk.kd i ≠ r) {a c : TR} (h : Rp σ a c) : Rp (σ.set i ⟨nk, some r⟩) a (if c.eqb (.nd nk.kd i) then r else c) := by
  have hl := (List.getElem?_eq_some_iff.1 hi).1
  have h0 := root_set hr hne hi
  induction h with
  | int => exact .int
  | bool => exact .bool
  | root j mk hj =>
    by_cases e : i = j
    · subst e
      rw [hi] at hj
      simp only [Option.some.injEq, Nd.mk.injEq, and_true] at hj
      subst hj
      rw [if_pos (TR.eqb_iff.2 rfl)]
      exact .step i nk r r (by simp [hl]) h0
    · rw [if_neg (by rw [Bool.not_eq_true, TR.eqb_ff]; intro z; simp only [TR.nd.injEq] at z; exact e z.2.symm)]
      exact .root j mk (by rw [List.getElem?_set_ne e]; exact hj)
  | step j mk a b hj _ ih =>
    have e : i ≠ j := fun e => by subst e; rw [hi] at hj; simp at hj
    exact .step j mk a _ (by rw [List.getElem?_set_ne e]; exact hj) ih
theorem rp_unset (hi : σ[i]? = some ⟨nk, none⟩) (hr : Rp σ r r) (hne : TR.nd nk.kd i ≠ r) {a b : TR} (h : Rp (σ.set i ⟨nk, some r⟩) a b) : ∃ c, Rp σ a c ∧ b = (if c.eqb (.nd nk.kd i) then r else c) := by
  have hl := (List.getElem?_eq_some_iff.1 hi).1
  have h0 := root_set hr hne hi
  induction h with
  | int => exact ⟨.int, .int, rfl⟩
  | bool => exact ⟨.bool, .bool, rfl⟩
  | root j mk hj =>
    by_cases e : i = j
    · subst e
      simp [hl] at hj
    · rw [List.getElem?_set_ne e] at hj
      exact ⟨_, .root j mk hj, by rw [if_neg (by rw [Bool.not_eq_true, TR.eqb_ff]; intro z; simp only [TR.nd.injEq] at z; exact e z.2.symm)]⟩
  | step j mk a b hj hab ih =>
    by_cases e : i = j
    · subst e
      simp only [List.getElem?_set_self hl, Option.some.injEq, Nd.mk.injEq] at hj
      obtain ⟨rfl, rfl⟩ := hj
      exact ⟨_, .root i nk hi, by rw [if_pos (TR.eqb_iff.2 rfl)]; exact hab.det h0⟩
    · rw [List.getElem?_set_ne e] at hj
      obtain ⟨c, h1, h2⟩ := ih
      exact ⟨c, .step j mk a c hj h1, h2⟩
theorem Ev.set {τ : St} (h : Ev σ τ) (hi : σ[i]? = some ⟨nk, none⟩) (hr : Rp σ r r) (hne : TR.nd nk.kd i ≠ r) : Ev (σ.set i ⟨nk, some r⟩) (τ.set i ⟨nk, some r⟩) := by
  have hl := (List.getElem?_eq_some_iff.1 hi).1
  have hl2 : i < τ.length := by rw [h.len]; exact hl
  refine ⟨by simp [h.len], ?_, ?_⟩
  · intro j mk s hj
    by_cases e : i = j
    · subst e
      rw [List.getElem?_set_self hl] at hj
      simp only [Option.some.injEq, Nd.mk.injEq] at hj
      obtain ⟨rfl, rfl⟩ := hj
      exact ⟨some r, by rw [List.getElem?_set_self hl2], rfl⟩
    · rw [List.getElem?_set_ne e] at hj
      rw [List.getElem?_set_ne e]
      exact h.kk j mk s hj
  · intro a b hab
    obtain ⟨c, h1, rfl⟩ := rp_unset hi hr hne hab
    exact rp_set (h.root hi) (h.rp _ _ hr) hne (h.rp _ _ h1)
/-- a variable that turns general. -/
theorem rp_mark {nk' : NK} (hk : nk'.kd = nk.kd) {σ : St} {i : Nat} (hi : σ[i]? = some ⟨nk, none⟩) {a b : TR} (h : Rp σ a b) : Rp (σ.set i ⟨nk', none⟩) a b := by
  have hl := (List.getElem?_eq_some_iff.1 hi).1
  induction h with
  | int => exact .int
  | bool => exact .bool
  | root j mk hj =>
    by_cases e : i = j
    · subst e
      rw [hi] at hj
      simp only [Option.some.injEq, Nd.mk.injEq, and_true] at hj
      subst hj
      rw [← hk]
      exact .root i nk' (by rw [List.getElem?_set_self hl])
    · exact .root j mk (by rw [List.getElem?_set_ne e]; exact hj)
  | step j mk a b hj _ ih =>
    have e : i ≠ j := fun e => by subst e; rw [hi] at hj; simp at hj
    exact .step j mk a _ (by rw [List.getElem?_set_ne e]; exact hj) ih
theorem set_back {σ : St} {i : Nat} {x y : Nd} (hi : σ[i]? = some x) : (σ.set i y).set i x = σ := by
  apply List.ext_getElem?
  intro j
  by_cases e : i = j
  · subst e
    have hl := (List.getElem?_eq_some_iff.1 hi).1
    rw [List.getElem?_set_self (by simpa using hl), hi]
  · rw [List.getElem?_set_ne e, List.getElem?_set_ne e]
theorem Ev.mark {τ : St} {nk' : NK} (hk : nk'.kd = nk.kd) (h : Ev σ τ) (hi : σ[i]? = some ⟨nk, none⟩) : Ev (σ.set i ⟨nk', none⟩) (τ.set i ⟨nk', none⟩) := by
  have hl := (List.getElem?_eq_some_iff.1 hi).1
  have hl2 : i < τ.length := by rw [h.len]; exact hl
  refine ⟨by simp [h.len], ?_, ?_⟩
  · intro j mk s hj
    by_cases e : i = j
    · subst e
      rw [List.getElem?_set_self hl] at hj
      simp only [Option.some.injEq, Nd.mk.injEq] at hj
      obtain ⟨rfl, rfl⟩ := hj
      exact ⟨none, by rw [List.getElem?_set_self hl2], rfl⟩
    · rw [List.getElem?_set_ne e] at hj
      rw [List.getElem?_set_ne e]
      exact h.kk j mk s hj
  · intro a b hab
    have h1 : Rp σ a b := by
      have := rp_mark (nk := nk') (nk' := nk) hk.symm (σ := σ.set i ⟨nk', none⟩) (i := i) (by rw [List.getElem?_set_self hl]) hab
      rwa [set_back hi] at this
    exact rp_mark hk (h.root hi) (h.rp _ _ h1)
end
def becF (σ : St) (i : Nat) (t : TR) : Option (Oc St) :=
  (partsF 500 σ t []).bind fun l => if memT (.nd .vr i) l then some (.er 3) else (stF σ i t).bind fun τ => some (.ok τ)
def isVr : TR → Option Nat
  | .nd .vr i => some i
  | _ => none
def alkF : TR → TR → Bool
  | .nd k _, .nd l _ => k.eqb l
  | _, _ => false
/-- what lies below two types that are alike, one after another. -/
def belF (f : St → TR → TR → Option (Oc St)) (σ : St) (x0 y0 : TR) : Option (Oc St) :=
  if alkF x0 y0 then
    (kidsF σ y0).bind fun os => (kidsF σ x0).bind fun ks =>
    match ks, os with
    | [a], [c] => f σ a c
    | [a, b], [c, d] => (f σ a c).bind fun o => match o with
      | .er j => some (.er j)
      | .ok σ1 => f σ1 b d
    | _, _ => none
  else some (.er 3)
def eqF : Nat → St → TR → TR → Option (Oc St)
  | 0, _, _, _ => none
  | n + 1, σ, x, y =>
    (repF 500 σ x).bind fun x0 => (repF 500 σ y).bind fun y0 =>
    if x0.eqb y0 then some (.ok σ)
    else match isVr x0 with
    | some i => becF σ i y0
    | none => match isVr y0 with
      | some j => becF σ j x0
      | none => (belF (fun σ a c => eqF n σ a c) σ x0 y0).bind fun o => match o with
        | .er j => some (.er j)
        | .ok σ1 => match x0 with
          | .nd _ i => (stF σ1 i y0).bind fun τ => some (.ok τ)
          | _ => none
def markF (σ : St) : TR → St
  | .nd .vr i => match σ[i]? with
    | some ⟨.vr nm _, none⟩ => σ.set i ⟨.vr nm true, none⟩
    | _ => σ
  | _ => σ
def genF : Nat → St → TR → List TR → Option St
  | 0, _, _, _ => none
  | n + 1, σ, r, bd =>
    (repF 500 σ r).bind fun r0 => if memT r0 bd then some σ else match isVr r0 with
    | some _ => some (markF σ r0)
    | none => (kidsF σ r0).bind fun ks => match ks with
      | [] => some σ
      | [x] => genF n σ x bd
      | [x, y] => (genF n σ x bd).bind fun σ1 => genF n σ1 y bd
      | _ => none
def lookF (i : Nat) : List (Nat × Nat) → Option Nat
  | [] => none
  | e :: l => if i == e.1 then some e.2 else lookF i l
def newV : Nd := ⟨.vr { data := #[] } false, none⟩
def instF : Nat → St → TR → List (Nat × Nat) → Option (TR × St × List (Nat × Nat))
  | 0, _, _, _ => none
  | n + 1, σ, r, m =>
    (repF 500 σ r).bind fun r0 => match r0 with
    | .int => some (.int, σ, m)
    | .bool => some (.bool, σ, m)
    | .nd k i => match σ[i]? with
      | some ⟨.vr _ false, none⟩ => some (.nd k i, σ, m)
      | some ⟨.vr _ true, none⟩ => match lookF i m with
        | some j => some (.nd .vr j, σ, m)
        | none => some (.nd .vr σ.length, σ ++ [newV], m ++ [(i, σ.length)])
      | some ⟨.ls x, none⟩ => (instF n σ x m).bind fun p => some (.nd .ls p.2.1.length, p.2.1 ++ [⟨.ls p.1, none⟩], p.2.2)
      | some ⟨.pr x y, none⟩ => (instF n σ x m).bind fun p => (instF n p.2.1 y p.2.2).bind fun q => some (.nd .pr q.2.1.length, q.2.1 ++ [⟨.pr p.1 q.1, none⟩], q.2.2)
      | some ⟨.ar x y, none⟩ => (instF n σ x m).bind fun p => (instF n p.2.1 y p.2.2).bind fun q => some (.nd .ar q.2.1.length, q.2.1 ++ [⟨.ar p.1 q.1, none⟩], q.2.2)
      | _ => none
/-- whether two schemes are the same, but for the names; the pairs so far. -/
def pairF (v w : Nat) (m : List (Nat × Nat)) : Bool × List (Nat × Nat) :=
  match lookF v m, lookF w m with
  | none, none => (true, m ++ [(v, w), (w, v)])
  | some x, _ => (x == w, m)
  | none, _ => (false, m)
def genB (σ : St) (i : Nat) : Option Bool := match σ[i]? with
  | some ⟨.vr _ g, none⟩ => some g
  | _ => none
def sameF : Nat → St → TR → TR → List (Nat × Nat) → Option (Bool × List (Nat × Nat))
  | 0, _, _, _, _ => none
  | n + 1, σ, x, y, m =>
    (repF 500 σ x).bind fun x0 => (repF 500 σ y).bind fun y0 =>
    if x0.eqb y0 then some (true, m)
    else match isVr x0 with
    | some i => match isVr y0 with
      | none => some (false, m)
      | some j => (genB σ i).bind fun gi => if gi then (genB σ j).bind fun gj => if gj then some (pairF i j m) else some (false, m) else some (false, m)
    | none =>
      if alkF x0 y0 then
        (kidsF σ y0).bind fun os => (kidsF σ x0).bind fun ks =>
        match ks, os with
        | [a], [c] => sameF n σ a c m
        | [a, b], [c, d] => (sameF n σ a c m).bind fun p => if p.1 then sameF n σ b d p.2 else some p
        | _, _ => none
      else some (false, m)
def samesF (σ : St) : List TR → List TR → Option Bool
  | [], _ => some true
  | a :: l, c :: k => (sameF 500 σ a c []).bind fun p => if p.1 then samesF σ l k else some false
  | _ :: _, [] => none
/-- a name that stands: what it is, and whether a function's parameter. -/
structure Bd where
  name : ByteArray
  ty : TR
  par : Bool
abbrev Gv := List (ByteArray × TR)
def bq (a b : ByteArray) : Bool := a.data.toList == b.data.toList
theorem bq_iff {a b : ByteArray} : bq a b = true ↔ a = b := by
  unfold bq
  rw [beq_iff_eq]
  constructor
  · intro h; exact ByteArray.ext (Array.toList_inj.1 h)
  · intro h; rw [h]
def findG (n : ByteArray) : Gv → Option TR
  | [] => none
  | e :: l => if bq n e.1 then some e.2 else findG n l
def findF (n : ByteArray) (gv : Gv) : List Bd → Option TR
  | [] => findG n gv
  | b :: l => if bq n b.name then some b.ty else findF n gv l
def boundF (σ : St) : List Bd → List TR → Option (List TR)
  | [], l => some l
  | b :: bs, l => if b.par then (partsF 500 σ b.ty l).bind fun l1 => boundF σ bs l1 else boundF σ bs l
/-- the type is not above the bound. -/
def bigF (σ : St) (r : TR) : Option Bool := (roomF 500 σ r 120).bind fun k => some (decide (k < 0))
def grpF : List ByteArray → List TR → List Bd → List Bd
  | n :: ns, t :: ts, bs => grpF ns ts (⟨n, t, false⟩ :: bs)
  | _, _, bs => bs
def gensF (σ : St) (bd : List TR) : List TR → Option St
  | [] => some σ
  | t :: ts => (genF 500 σ t bd).bind fun σ1 => gensF σ1 bd ts
def anyF : Nat → St → List TR × St
  | 0, σ => ([], σ)
  | k + 1, σ => let p := anyF k (σ ++ [⟨.vr { data := #[] } true, none⟩]); (.nd .vr σ.length :: p.1, p.2)
end Go.Proofs.YtleenphlgbklmabGreatDoor
