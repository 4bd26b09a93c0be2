import Derived.Test.YtleenphlgbklmabGreatDoorXPNio
import Derived.Test.YtleenphlgbklmabGreatDoorXPTyS
import Derived.Test.YtleenphlgbklmabGreatDoorXWCanon
import Derived.Test.YtleenphlgbklmabGreatDoorXTGood
import Derived.Test.YtleenphlgbklmabGreatDoorXWDeep
import Derived.Deep.DeepCutAuto
import Derived.Deep.LoopGhost
import Derived.Deep.RegionHeld3
set_option linter.unusedVariables false
set_option linter.unusedSimpArgs false
namespace Go.Proofs.YtleenphlgbklmabGreatDoor
open Go.RowKit

theorem cnN_get {l L : List Nat} (hp : l <+: L) (hd : L.Nodup) {j n : Nat} (h : l[j]? = some n) : (cnN L).getD n { data := #[] } = letM j := by
  have hj : j < l.length := (List.getElem?_eq_some_iff.1 h).1
  have hL : L[j]? = some n := by
    obtain ⟨r, rfl⟩ := hp
    rw [List.getElem?_append_left hj]
    exact h
  have hjL := (List.getElem?_eq_some_iff.1 hL).1
  have := cnA_get L (mxL L) hd (fun x hx => mxL_mem hx) L.length (Nat.le_refl _) j hjL
  have e : L.getD j 0 = n := by simp [List.getD, hL]
  rw [e] at this
  exact this
theorem idx_map (f : Nat → Nat) (n : Nat) (l : List Nat) (hf : ∀ x, x ∈ l → f n = f x → n = x) : (l.map f).findIdx? (fun x => f n == x) = l.findIdx? (fun x => n == x) := by
  induction l with
  | nil => rfl
  | cons a l ih =>
    have hi := ih (fun x hx => hf x (by simp [hx]))
    have e : (f n == f a) = (n == a) := by
      rw [Bool.eq_iff_iff, beq_iff_eq, beq_iff_eq]
      exact ⟨fun z => hf a List.mem_cons_self z, fun z => by rw [z]⟩
    simp only [List.map_cons, List.findIdx?_cons, hi, e]
theorem idx_some {l : List Nat} {n j : Nat} (h : l.findIdx? (fun x => n == x) = some j) : l[j]? = some n := by
  obtain ⟨hj, e, _⟩ := List.findIdx?_eq_some_iff_getElem.1 h
  rw [List.getElem?_eq_getElem hj]
  have := beq_iff_eq.1 e
  rw [← this]
theorem idx_none {l : List Nat} {n : Nat} (h : l.findIdx? (fun x => n == x) = none) : ¬ n ∈ l := by
  intro hm
  have := (List.findIdx?_eq_none_iff.1 h) n hm
  simp at this
/-- names in order: the numbers of the variables come to. -/
structure NOk (ad : List Nat) (σ : St) (B nb mb : Nat) (w : World) (l : List Nat) : Prop where
  nbc : w.heap[nb]? = some (.cells #[.map (some mb)] 123 (0, 0))
  nbB : nb < B
  mbB : mb < B
  mp : w.heap[mb]? = some (.map (nFrom (l.map fun n => ad.getD n 0) 0).toArray l.length)
  vr : ∀ n, n ∈ l → ∃ nm g s, σ[n]? = some ⟨.vr nm g, s⟩
theorem NOk.okk (ad : List Nat) (σ : St) (B nb mb : Nat) : OkK ad B (NOk ad σ B nb mb) := by
  intro w w' l h k
  refine ⟨k.blk _ _ h.nbc (fun z => by have z : B ≤ nb := z; have := h.nbB; omega) ?_, h.nbB, h.mbB, k.blk _ _ h.mp (fun z => by have z : B ≤ mb := z; have := h.mbB; omega) ?_, h.vr⟩
  · rintro ⟨cs, e, f, he, ht⟩
    simp only [Obj.cells.injEq] at he
    obtain ⟨_, rfl, _⟩ := he
    rcases ht with e | e | e | e <;> cases e
  · rintro ⟨cs, e, f, he, _⟩
    cases he
theorem SX.vbk {w : World} {ad : List Nat} {σ : St} (h : SX w ad σ) {n : Nat} {nm : ByteArray} {g : Bool} {s : Option TR} (hn : σ[n]? = some ⟨.vr nm g, s⟩) : ∃ c, ad[n]? = some c ∧ VBk w c := by
  obtain ⟨τ, h1, h2⟩ := h
  obtain ⟨s', h3, _⟩ := h2.kk n _ _ hn
  have hlt := (List.getElem?_eq_some_iff.1 h3).1
  have hlt : n < ad.length := by rw [h1.len]; exact hlt
  obtain ⟨sv, o, h4, _, h5⟩ := h1.blk n _ _ (ad[n]) h3 (by simp)
  refine ⟨ad[n], by simp, #[sv, .string nm, .bool g], ?_⟩
  rw [h4]
  exact congrArg some h5
/-- a writing with names in order. -/
def WO (ad : List Nat) (σ : St) (B b pm nb mb : Nat) (L : List Nat) : WE := ⟨ad, σ, B, b, pm, .func (.func 57) #[] #[.pointer (some ⟨nb, 0, none⟩)], cnN L, NOk ad σ B nb mb, (· = mb), L⟩
section
variable {ad : List Nat} {σ : St} {B b pm nb mb : Nat} {L : List Nat}
theorem num_step {w : World} {l : List Nat} {sp : List Sp} {es : List (TR × Nat × Nat)} (h : (WO ad σ B b pm nb mb L).TX w l sp es) (n c : Nat) (nm : ByteArray) (g : Bool) (s : Option TR) (hn : σ[n]? = some ⟨.vr nm g, s⟩) (hc : ad[n]? = some c) (hL : L.length ≤ 260) (hp : varsM (.mk { data := #[] } n []) l <+: L) :
    Calls Tryz.prog 57 #[.pointer (some ⟨c, 0, none⟩), .pointer (some ⟨nb, 0, none⟩)] w fun e w' => ∃ j, e = .returned (.string (letM j)) ∧ (WO ad σ B b pm nb mb L).TX w' (varsM (.mk { data := #[] } n []) l) sp es ∧ Kt ad (SN B (· = mb)) w w' ∧ (varsM (.mk { data := #[] } n []) l)[j]? = some n := by
  have hN : NOk ad σ B nb mb w l := h.ns
  have h260 := Nat.le_trans hp.length_le hL
  have hl : l <+: varsM (.mk { data := #[] } n []) l := varsM_pre (m := n + 1) (.var n (by omega)) l
  have gd : ∀ x, x ∈ l → ∃ q, ad[x]? = some q ∧ VBk w q := fun x hx => by
    obtain ⟨nm, g, s, hx⟩ := hN.vr x hx
    exact SX.vbk h.st hx
  have hgc : ad.getD n 0 = c := by simp [List.getD, hc]
  have hst : SX w ad σ := h.st
  obtain ⟨τ, hsw, _⟩ := hst
  have hinj : ∀ x, x ∈ l → ad.getD n 0 = ad.getD x 0 → n = x := fun x hx e => by
    obtain ⟨q, hq, _⟩ := gd x hx
    have e2 : ad.getD x 0 = q := by simp [List.getD, hq]
    rw [hgc, e2] at e
    subst e
    exact nodup_get hsw.inj hc hq
  have hV : VBk w c := by
    obtain ⟨c', h1, h2⟩ := SX.vbk h.st hn
    have h1 : ad[n]? = some c' := h1
    rw [hc] at h1
    simp at h1
    subst h1
    exact h2
  have hNM : NM w mb (l.map fun n => ad.getD n 0) := ⟨by rw [hN.mp]; simp, fun q hq => by
    obtain ⟨x, hx, rfl⟩ := List.mem_map.1 hq
    obtain ⟨q, hq, hb⟩ := gd x hx
    have : ad.getD x 0 = q := by simp [List.getD, hq]
    rw [this]
    exact hb⟩
  have hc0 : w.cell? ⟨nb, 0, none⟩ = some (.map (some mb)) := by simp [World.cell?, hN.nbc]
  have hi := idx_map (fun n => ad.getD n 0) n l hinj
  simp only [hgc] at hi
  have hvl := varsM_leaf n l
  cases hj : l.findIdx? (fun x => n == x) with
  | some j =>
    have hjs := idx_some hj
    have hin : inB l n = true := List.contains_iff_mem.2 (List.mem_of_getElem? hjs)
    have hjl := (List.getElem?_eq_some_iff.1 hjs).1
    rw [hin] at hvl
    simp only [if_true] at hvl
    rw [hvl] at h260 ⊢
    refine (pnum_old w nb mb _ _ hc0 hNM hV j (hi.trans hj) (by omega)).mono ?_
    rintro e w' ⟨rfl, hww⟩
    subst hww
    exact ⟨j, rfl, h, Kt.refl _ _ _, hjs⟩
  | none =>
    have hin : inB l n = false := by
      rw [Bool.eq_false_iff]
      exact fun z => idx_none hj (List.contains_iff_mem.1 z)
    rw [hin] at hvl
    simp only [Bool.false_eq_true, if_false] at hvl
    rw [hvl] at h260 hl ⊢
    simp at h260
    refine (pnum_new w nb mb _ _ hc0 hNM hV (hi.trans hj) (by simp; omega)).mono ?_
    rintro e w' ⟨rfl, hM, hk⟩
    have hmp := hN.mp
    have hB := h.bs
    have hkt : Kt ad (· = mb) w w' := Kt.of_kp hk
    have hne : nb ≠ mb := fun z => by
      have a := hN.nbc
      rw [z, hmp] at a
      cases a
    refine ⟨l.length, by simp, ⟨TL.kt h.tl hkt (fun q hq => by rw [show q = mb from hq]; exact hN.mbB), TMp.kt h.mp hkt (fun z => by have := h.pB; have z : pm = mb := z; have := hN.mbB; have : B ≤ pm := h.pB; omega), h.st.keep (fun a o ha hb => hk.blk hb (fun z => ?_)), ⟨hk.blk hN.nbc hne, hN.nbB, hN.mbB, ?_, ?_⟩, Nat.le_trans hB hk.size, h.pB, h.adB, ?_⟩, hkt.mono (fun q _ hq => .inr hq), by simp⟩
    · obtain ⟨o', h1, cs, ty, f, rfl, _⟩ := hsw.tb ha
      rw [show a = mb from z, hmp] at h1
      cases h1
    · have := hM.mp
      rw [this, List.map_append]
      simp only [List.map_cons, List.map_nil, hgc, List.length_append, List.length_map, List.length_cons, List.length_nil]
    · intro x hx
      simp at hx
      rcases hx with hx | rfl
      · exact hN.vr x hx
      · exact ⟨nm, g, s, hn⟩
    · intro e he
      obtain ⟨T, q1, q2, q3, q4, q5⟩ := h.pcs e he
      exact ⟨T, q1, q2, q3, q4, varsM_idem q1.wt l _ (by rw [q5]; exact hl)⟩
end
theorem letM_pos (n : Nat) : 0 < (letM n).size := by
  unfold letM
  split
  · simp [bytesN, ByteArray.size]
  · simp [bytesN, ByteArray.size]
set_option maxRecDepth 20000 in
set_option maxHeartbeats 1000000 in
theorem first_num (ad : List Nat) (σ : St) (B b pm nb mb : Nat) (L : List Nat) (hE : (WO ad σ B b pm nb mb L).Ok) (hd : L.Nodup) (hL : L.length ≤ 260) (n : Nat) (nm : ByteArray) (g : Bool) (hnd : σ[n]? = some ⟨.vr nm g, none⟩) : SFst (WO ad σ B b pm nb mb L) (.nd .vr n) (.mk { data := #[] } n []) := by
  intro w v l sp es hv h hp hn hl
  have hsz : sz (.mk { data := #[] } n []) = 1 := by simp [sz, szs]
  rw [hsz] at hn hl ⊢
  obtain ⟨c, hc, rfl⟩ := hv
  have hc : ad[n]? = some c := hc
  rw [show Kd.vr.tp = 124 from rfl]
  show Calls Tryz.prog 126 #[.pointer (some ⟨b, 0, none⟩), _] w _
  have HN : Hid _ := num_step h n c nm g none hnd hc hL hp
  have HS : Hid (∀ (w' : World) (j : Nat), (WO ad σ B b pm nb mb L).TX w' (varsM (.mk { data := #[] } n []) l) sp es → Calls Tryz.prog 157 #[.pointer (some ⟨b, 0, none⟩), .string (letM j)] w' fun e w'' => e = .returned (.tuple #[]) ∧ (WO ad σ B b pm nb mb L).TX w'' (varsM (.mk { data := #[] } n []) l) (sp ++ [.tk (letM j)]) es ∧ Kt ad (SN B (· = mb)) w' w'') := fun w' j hT => tok_step _ hE w' _ sp es hT (letM j) (letM_pos j) (by have := letM_size j; omega) (by omega)
  have t1 := Tryz.taVB (.pointer (some ⟨c, 0, none⟩)) w
  have t2 := Tryz.taVV (.pointer (some ⟨c, 0, none⟩)) w
  have c0 : w.cell? ⟨b, 0, none⟩ = some (.func (.func 57) #[] #[.pointer (some ⟨nb, 0, none⟩)]) := h.tl.c.1
  have HG : Hid (∀ j, (varsM (.mk { data := #[] } n []) l)[j]? = some n → shT (cnN L) (.mk { data := #[] } n []) = letM j) := fun j hj => (shT_var _ n).trans (cnN_get hp hd hj)
  clear h hp hnd hc
  go_enter Tryz.func126, Tryz.ntmps126
  go_wp2_with fail
  refine Calls.mono HN.out ?_
  rintro e w2 ⟨j, rfl, hT, hk, hj⟩
  have HS2 : Hid _ := HS.out w2 j hT
  clear HS HN hT
  go_wp2_with fail
  refine Calls.mono HS2.out ?_
  rintro e w3 ⟨rfl, hT3, hk3⟩
  go_wp2
  go_end0
  have e := HG.out j hj
  refine ⟨rfl, sp ++ [.tk (letM j)], es, hT3, ?_, ?_, by simp, fun e he => .inl he, hk.trans hk3⟩
  · show _ = decS sp ++ shT (cnN L) _
    rw [e, decS_tk]
  · rw [decS_tk_size]; have := letM_size j; omega
end Go.Proofs.YtleenphlgbklmabGreatDoor

namespace Go.Proofs.YtleenphlgbklmabGreatDoor
open Go.RowKit

theorem cnA_short (ns : List Nat) (m q : Nat) : ∀ x, x ∈ cnA ns m q → x.size ≤ 900 := by
  induction q with
  | zero =>
    intro x hx
    simp [cnA] at hx
    rw [hx.2]
    decide
  | succ q ih =>
    intro x hx
    rcases List.mem_or_eq_of_mem_set hx with h | h
    · exact ih x h
    · rw [h]; have := letM_size q; omega
theorem cnN_short (L : List Nat) (n : Nat) : ((cnN L).getD n { data := #[] }).size ≤ 900 := by
  by_cases h : n < (cnN L).length
  · have : (cnN L).getD n { data := #[] } ∈ cnN L := by simp [List.getD, h]
    exact cnA_short _ _ _ _ this
  · have : (cnN L).getD n { data := #[] } = { data := #[] } := by simp [List.getD, h]
    rw [this]
    decide
/-- showType, with names in order. -/
theorem show_num (w : World) (nb mb : Nat) (ad : List Nat) (σ : St) (r : TR) (t : Ty) (v : Value) (hs : SX w ad σ) (hv : RV ad r v) (hd : Dn σ r t) (hsz : sz t ≤ 260) (hnb : w.heap[nb]? = some (.cells #[.map (some mb)] 123 (0, 0))) (hm : w.heap[mb]? = some (.map #[] 0)) :
    Calls Tryz.prog 36 #[v, .func (.func 57) #[] #[.pointer (some ⟨nb, 0, none⟩)]] w fun e w' => e = .returned (.string (canT t)) ∧ SX w' ad σ ∧ Kt ad (· = mb) w w' := by
  have hnd : (varsM t []).Nodup := varsM_nodup hd.wt [] List.nodup_nil
  have hL : (varsM t []).length ≤ 260 := by have := (varsM_len t []).2; simp at this; omega
  have hmb := lt_of_block hm
  refine show_any w v ad σ r t 57 #[.pointer (some ⟨nb, 0, none⟩)] (cnN (varsM t [])) (NOk ad σ w.heap.size nb mb) (· = mb) (varsM t []) hs hv hd ⟨hnb, lt_of_block hnb, hmb, by simpa [nFrom] using hm, by simp⟩ (NOk.okk _ _ _ _ _) (fun q hq => by rw [show q = mb from hq]; exact hmb) (cnN_short _) ?_ (List.prefix_refl _) (by omega)
  intro b pm i nm g hi
  exact first_num ad σ w.heap.size b pm nb mb _ ⟨NOk.okk _ _ _ _ _, (fun q hq => by rw [show q = mb from hq]; exact hmb), cnN_short _⟩ hnd hL i nm g hi
end Go.Proofs.YtleenphlgbklmabGreatDoor

namespace Go.Proofs.YtleenphlgbklmabGreatDoor

def isW (c : UInt8) : Bool := (97 ≤ c.toNat && c.toNat ≤ 122) || (48 ≤ c.toNat && c.toNat ≤ 57)
/-- names that differ, of letters and digits, none int or bool. -/
structure NW (names : List ByteArray) : Prop where
  nd : names.Nodup
  ne : ∀ m, m ∈ names → m ≠ { data := #[] } ∧ m ≠ { data := #[105, 110, 116] } ∧ m ≠ { data := #[98, 111, 111, 108] }
  w : ∀ m, m ∈ names → ∀ c, c ∈ m.data.toList → isW c = true
/-- what may stand behind a type, and behind the left side of an arrow. -/
def End1 (r : List UInt8) : Prop := r = [] ∨ ∃ c q, r = c :: q ∧ (c = 93 ∨ c = 41 ∨ c = 44)
def End2 (r : List UInt8) : Prop := r = [] ∨ ∃ c q, r = c :: q ∧ (c = 93 ∨ c = 41 ∨ c = 44 ∨ c = 32)
theorem End1.two {r : List UInt8} (h : End1 r) : End2 r := by
  rcases h with h | ⟨c, q, h, e⟩
  · exact .inl h
  · exact .inr ⟨c, q, h, by rcases e with e | e | e <;> simp [e]⟩
theorem word_span (a b r s : List UInt8) (ha : ∀ c, c ∈ a → isW c = true) (hb : ∀ c, c ∈ b → isW c = true) (hr : End2 r) (hs : End2 s) (h : a ++ r = b ++ s) : a = b ∧ r = s := by
  have nw : ∀ {x : List UInt8} {c : UInt8} {q : List UInt8}, End2 x → x = c :: q → isW c = false := by
    intro x c q hx e
    rcases hx with hx | ⟨c', q', e2, e3⟩
    · rw [hx] at e; cases e
    · rw [e] at e2
      injection e2 with e2 _
      subst e2
      rcases e3 with e3 | e3 | e3 | e3 <;> rw [e3] <;> decide
  induction a generalizing b with
  | nil =>
    cases b with
    | nil => exact ⟨rfl, by simpa using h⟩
    | cons y b =>
      simp at h
      have := nw hr h
      rw [hb y (by simp)] at this
      cases this
  | cons x a ih =>
    cases b with
    | nil =>
      simp at h
      have := nw hs h.symm
      rw [ha x (by simp)] at this
      cases this
    | cons y b =>
      simp at h
      obtain ⟨e1, e2⟩ := ih b (fun c hc => ha c (by simp [hc])) (fun c hc => hb c (by simp [hc])) h.2
      exact ⟨by rw [h.1, e1], e2⟩
/-- the text of a type, as bytes; of one at the left of an arrow. -/
def sT (names : List ByteArray) (t : Ty) : List UInt8 := (shT names t).data.toList
def isArr (t : Ty) : Bool := t.kind.data.toList == ({ data := #[102, 117, 110] } : ByteArray).data.toList
def lT (names : List ByteArray) (t : Ty) : List UInt8 := if isArr t then 40 :: (sT names t ++ [41]) else sT names t
section
variable {names : List ByteArray}
theorem sT_list (a : Ty) : sT names (.mk { data := #[108, 105, 115, 116] } 0 [a]) = 91 :: (sT names a ++ [93]) := by
  unfold sT
  rw [shT_list]
  simp
theorem sT_pair (a b : Ty) : sT names (.mk { data := #[112, 97, 105, 114] } 0 [a, b]) = 40 :: (sT names a ++ (44 :: 32 :: (sT names b ++ [41]))) := by
  unfold sT
  rw [shT_pair]
  simp
theorem sT_fn (a b : Ty) : sT names (.mk { data := #[102, 117, 110] } 0 [a, b]) = lT names a ++ (32 :: 45 :: 62 :: 32 :: sT names b) := by
  unfold lT isArr
  have : sT names (.mk { data := #[102, 117, 110] } 0 [a, b]) = (shT names (.mk { data := #[102, 117, 110] } 0 [a, b])).data.toList := rfl
  rw [this, shT_fn]
  cases (a.kind.data.toList == ({ data := #[102, 117, 110] } : ByteArray).data.toList) <;> simp [brkT, sT]
theorem lT_no {t : Ty} (h : isArr t = false) : lT names t = sT names t := by unfold lT; rw [h]; rfl
theorem lT_yes {t : Ty} (h : isArr t = true) : lT names t = 40 :: (sT names t ++ [41]) := by unfold lT; rw [h]; rfl
/-- a type of one word. -/
inductive IsWd (names : List ByteArray) : Ty → Prop
  | var (n : Nat) : n < names.length → IsWd names (.mk { data := #[] } n [])
  | int : IsWd names (.mk { data := #[105, 110, 116] } 0 [])
  | bool : IsWd names (.mk { data := #[98, 111, 111, 108] } 0 [])
theorem IsWd.txt (hN : NW names) {t : Ty} (h : IsWd names t) : sT names t ≠ [] ∧ (∀ c, c ∈ sT names t → isW c = true) ∧ isArr t = false := by
  cases h with
  | var n hn =>
    have hm : names.getD n { data := #[] } ∈ names := by simp [List.getD, hn]
    unfold sT
    rw [shT_var]
    refine ⟨fun e => (hN.ne _ hm).1 (ByteArray.ext (Array.toList_inj.1 e)), hN.w _ hm, by simp [isArr, Ty.kind]⟩
  | int => unfold sT; rw [shT_int]; exact ⟨by decide, by decide, by decide⟩
  | bool => unfold sT; rw [shT_bool]; exact ⟨by decide, by decide, by decide⟩
theorem IsWd.inj (hN : NW names) {t u : Ty} (h : IsWd names t) (k : IsWd names u) (e : sT names t = sT names u) : t = u := by
  have e : shT names t = shT names u := ByteArray.ext (Array.toList_inj.1 e)
  cases h with
  | var n hn =>
    have hm : names.getD n { data := #[] } ∈ names := by simp [List.getD, hn]
    rw [shT_var] at e
    cases k with
    | var n' hn' =>
      rw [shT_var] at e
      have e1 : names[n] = names[n'] := by simpa [List.getD, hn, hn'] using e
      have : n = n' := by
        rcases Nat.lt_trichotomy n n' with q | q | q
        · exact absurd e1 ((List.pairwise_iff_getElem.1 hN.nd) n n' hn hn' q)
        · exact q
        · exact absurd e1.symm ((List.pairwise_iff_getElem.1 hN.nd) n' n hn' hn q)
      rw [this]
    | int => rw [shT_int] at e; exact absurd e (hN.ne _ hm).2.1
    | bool => rw [shT_bool] at e; exact absurd e (hN.ne _ hm).2.2
  | int =>
    rw [shT_int] at e
    cases k with
    | var n' hn' =>
      have hm : names.getD n' { data := #[] } ∈ names := by simp [List.getD, hn']
      rw [shT_var] at e
      exact absurd e.symm (hN.ne _ hm).2.1
    | int => rfl
    | bool => rw [shT_bool] at e; exact absurd (congrArg (fun x => x.data.toList) e) (by decide)
  | bool =>
    rw [shT_bool] at e
    cases k with
    | var n' hn' =>
      have hm : names.getD n' { data := #[] } ∈ names := by simp [List.getD, hn']
      rw [shT_var] at e
      exact absurd e.symm (hN.ne _ hm).2.2
    | int => rw [shT_int] at e; exact absurd (congrArg (fun x => x.data.toList) e) (by decide)
    | bool => rfl
def QA (names : List ByteArray) (t : Ty) : Prop := ∀ u r s, WT names.length u → End2 r → End2 s → lT names t ++ r = lT names u ++ s → t = u ∧ r = s
def QB (names : List ByteArray) (t : Ty) : Prop := ∀ u r s, WT names.length u → End1 r → End1 s → sT names t ++ r = sT names u ++ s → t = u ∧ r = s
/-- the shapes of a type's text at the left of an arrow. -/
theorem WT.shape (hN : NW names) {u : Ty} (h : WT names.length u) : (IsWd names u ∧ isArr u = false) ∨ (∃ a, u = .mk { data := #[108, 105, 115, 116] } 0 [a] ∧ WT names.length a ∧ lT names u = 91 :: (sT names a ++ [93])) ∨ (∃ a b, u = .mk { data := #[112, 97, 105, 114] } 0 [a, b] ∧ WT names.length a ∧ WT names.length b ∧ lT names u = 40 :: (sT names a ++ (44 :: 32 :: (sT names b ++ [41])))) ∨ (∃ a b, u = .mk { data := #[102, 117, 110] } 0 [a, b] ∧ WT names.length a ∧ WT names.length b ∧ isArr u = true) := by
  cases h with
  | var n hn => exact .inl ⟨.var n hn, by simp [isArr, Ty.kind]⟩
  | int => exact .inl ⟨.int, by decide⟩
  | bool => exact .inl ⟨.bool, by decide⟩
  | list a ha => exact .inr (.inl ⟨a, rfl, ha, by rw [lT_no (by simp [isArr, Ty.kind]), sT_list]⟩)
  | pair a b ha hb => exact .inr (.inr (.inl ⟨a, b, rfl, ha, hb, by rw [lT_no (by simp [isArr, Ty.kind]), sT_pair]⟩))
  | fn a b ha hb => exact .inr (.inr (.inr ⟨a, b, rfl, ha, hb, by simp [isArr, Ty.kind]⟩))
theorem wd_ne (hN : NW names) {t : Ty} (h : IsWd names t) {r q : List UInt8} {c : UInt8} (hc : isW c = false) : lT names t ++ r ≠ c :: q := by
  obtain ⟨h1, h2, h3⟩ := h.txt hN
  rw [lT_no h3]
  cases e : sT names t with
  | nil => exact absurd e h1
  | cons x l =>
    intro z
    simp at z
    have := h2 x (by rw [e]; simp)
    rw [z.1, hc] at this
    cases this
/-- behind a type that is no arrow. -/
theorem QB_of {t : Ty} (hA : QA names t) (ht : isArr t = false) (hN : NW names) : QB names t := by
  intro u r s hu hr hs e
  by_cases hk : isArr u = true
  · rcases hu.shape hN with ⟨_, h⟩ | ⟨a, rfl, _⟩ | ⟨a, b, rfl, _⟩ | ⟨a, b, rfl, ha, hb, _⟩
    · rw [hk] at h; cases h
    · simp [isArr, Ty.kind] at hk
    · simp [isArr, Ty.kind] at hk
    · rw [sT_fn, List.append_assoc, ← lT_no ht] at e
      have q := hA a r _ ha hr.two (.inr ⟨32, _, rfl, by simp⟩) e
      rcases hr with h | ⟨c, l, h, h2⟩
      · rw [h] at q; simp at q
      · rw [h] at q
        have := q.2
        simp at this
        rcases h2 with h2 | h2 | h2 <;> rw [h2] at this <;> simp at this
  · have hk : isArr u = false := by simpa using hk
    rw [← lT_no ht, ← lT_no hk] at e
    exact hA u r s hu hr.two hs.two e
theorem inj_all (hN : NW names) {t : Ty} (h : WT names.length t) : QA names t ∧ QB names t := by
  have wd : ∀ t, IsWd names t → QA names t := by
    intro t ht u r s hu hr hs e
    obtain ⟨t1, t2, t3⟩ := ht.txt hN
    rcases hu.shape hN with ⟨hw, h3⟩ | ⟨a, rfl, ha, hl⟩ | ⟨a, b, rfl, ha, hb, hl⟩ | ⟨a, b, rfl, ha, hb, h3⟩
    · obtain ⟨u1, u2, _⟩ := hw.txt hN
      rw [lT_no t3, lT_no h3] at e
      obtain ⟨q1, q2⟩ := word_span _ _ _ _ t2 u2 hr hs e
      exact ⟨ht.inj hN hw q1, q2⟩
    · rw [hl] at e; exact absurd e (wd_ne hN ht (by decide))
    · rw [hl] at e; exact absurd e (wd_ne hN ht (by decide))
    · rw [lT_yes h3] at e; exact absurd e (wd_ne hN ht (by decide))
  induction h with
  | var n hn => exact ⟨wd _ (.var n hn), QB_of (wd _ (.var n hn)) (by simp [isArr, Ty.kind]) hN⟩
  | int => exact ⟨wd _ .int, QB_of (wd _ .int) (by decide) hN⟩
  | bool => exact ⟨wd _ .bool, QB_of (wd _ .bool) (by decide) hN⟩
  | list a ha ih =>
    have hA : QA names (.mk { data := #[108, 105, 115, 116] } 0 [a]) := by
      intro u r s hu hr hs e
      rw [lT_no (by simp [isArr, Ty.kind]), sT_list] at e
      rcases hu.shape hN with ⟨hw, h3⟩ | ⟨a', rfl, ha', hl⟩ | ⟨a', b', rfl, ha', hb', hl⟩ | ⟨a', b', rfl, ha', hb', h3⟩
      · exact absurd e.symm (wd_ne hN hw (by decide))
      · rw [hl] at e
        simp at e
        obtain ⟨q1, q2⟩ := ih.2 a' (93 :: r) (93 :: s) ha' (.inr ⟨93, r, rfl, by simp⟩) (.inr ⟨93, s, rfl, by simp⟩) e
        simp at q2
        exact ⟨by rw [q1], q2⟩
      · rw [hl] at e; simp at e
      · rw [lT_yes h3] at e; simp at e
    exact ⟨hA, QB_of hA (by simp [isArr, Ty.kind]) hN⟩
  | pair a b ha hb iha ihb =>
    have hA : QA names (.mk { data := #[112, 97, 105, 114] } 0 [a, b]) := by
      intro u r s hu hr hs e
      rw [lT_no (by simp [isArr, Ty.kind]), sT_pair] at e
      rcases hu.shape hN with ⟨hw, h3⟩ | ⟨a', rfl, ha', hl⟩ | ⟨a', b', rfl, ha', hb', hl⟩ | ⟨a', b', rfl, ha', hb', h3⟩
      · exact absurd e.symm (wd_ne hN hw (by decide))
      · rw [hl] at e; simp at e
      · rw [hl] at e
        simp at e
        obtain ⟨q1, q2⟩ := iha.2 a' _ _ ha' (.inr ⟨44, _, rfl, by simp⟩) (.inr ⟨44, _, rfl, by simp⟩) e
        simp at q2
        obtain ⟨q3, q4⟩ := ihb.2 b' (41 :: r) (41 :: s) hb' (.inr ⟨41, r, rfl, by simp⟩) (.inr ⟨41, s, rfl, by simp⟩) q2
        simp at q4
        exact ⟨by rw [q1, q3], q4⟩
      · rw [lT_yes h3] at e
        simp at e
        obtain ⟨_, q2⟩ := iha.2 _ _ (41 :: s) (.fn a' b' ha' hb') (.inr ⟨44, _, rfl, by simp⟩) (.inr ⟨41, s, rfl, by simp⟩) e
        simp at q2
    exact ⟨hA, QB_of hA (by simp [isArr, Ty.kind]) hN⟩
  | fn a b ha hb iha ihb =>
    have hB : QB names (.mk { data := #[102, 117, 110] } 0 [a, b]) := by
      intro u r s hu hr hs e
      rw [sT_fn, List.append_assoc] at e
      by_cases hk : isArr u = true
      · rcases hu.shape hN with ⟨_, h⟩ | ⟨a', rfl, _⟩ | ⟨a', b', rfl, _⟩ | ⟨a', b', rfl, ha', hb', _⟩
        · rw [hk] at h; cases h
        · simp [isArr, Ty.kind] at hk
        · simp [isArr, Ty.kind] at hk
        · rw [sT_fn, List.append_assoc] at e
          obtain ⟨q1, q2⟩ := iha.1 a' _ _ ha' (.inr ⟨32, _, rfl, by simp⟩) (.inr ⟨32, _, rfl, by simp⟩) e
          simp at q2
          obtain ⟨q3, q4⟩ := ihb.2 b' r s hb' hr hs q2
          exact ⟨by rw [q1, q3], q4⟩
      · have hk : isArr u = false := by simpa using hk
        rw [← lT_no hk] at e
        have q := iha.1 u _ s hu (.inr ⟨32, _, rfl, by simp⟩) hs.two e
        rcases hs with h | ⟨c, l, h, h2⟩
        · rw [h] at q; simp at q
        · rw [h] at q
          have := q.2
          simp at this
          rcases h2 with h2 | h2 | h2 <;> rw [h2] at this <;> simp at this
    refine ⟨?_, hB⟩
    intro u r s hu hr hs e
    rw [lT_yes (by simp [isArr, Ty.kind])] at e
    rcases hu.shape hN with ⟨hw, h3⟩ | ⟨a', rfl, ha', hl⟩ | ⟨a', b', rfl, ha', hb', hl⟩ | ⟨a', b', rfl, ha', hb', h3⟩
    · exact absurd e.symm (wd_ne hN hw (by decide))
    · rw [hl] at e; simp at e
    · rw [hl] at e
      simp at e
      obtain ⟨_, q2⟩ := hB a' (41 :: r) _ ha' (.inr ⟨41, r, rfl, by simp⟩) (.inr ⟨44, _, rfl, by simp⟩) e
      simp at q2
    · rw [lT_yes h3] at e
      simp at e
      obtain ⟨q1, q2⟩ := hB _ (41 :: r) (41 :: s) (.fn a' b' ha' hb') (.inr ⟨41, r, rfl, by simp⟩) (.inr ⟨41, s, rfl, by simp⟩) e
      simp at q2
      exact ⟨q1, q2⟩
/-- types by their own names are the same just if their texts are. -/
theorem shT_inj (hN : NW names) {t u : Ty} (ht : WT names.length t) (hu : WT names.length u) (e : shT names t = shT names u) : t = u := by
  have := (inj_all hN ht).2 u [] [] hu (.inl rfl) (.inl rfl) (by unfold sT; rw [e])
  exact this.1
end
end Go.Proofs.YtleenphlgbklmabGreatDoor

namespace Go.Proofs.YtleenphlgbklmabGreatDoor
open Go.RowKit

theorem SX.vname {w : World} {ad : List Nat} {σ : St} (h : SX w ad σ) {n c : Nat} {nm : ByteArray} {g : Bool} {s : Option TR} (hn : σ[n]? = some ⟨.vr nm g, s⟩) (hc : ad[n]? = some c) : w.cell? ⟨c, 1, none⟩ = some (.string nm) ∧ w.cell? ⟨c, 2, none⟩ = some (.bool g) := by
  obtain ⟨τ, h1, h2⟩ := h
  obtain ⟨s', h3, _⟩ := h2.kk n _ _ hn
  obtain ⟨sv, o, h4, _, h5⟩ := h1.blk n _ _ c h3 hc
  have h5 : o = .cells #[sv, .string nm, .bool g] 148 (0, 0) := h5
  subst h5
  simp [World.cell?, h4]
set_option maxRecDepth 20000 in
theorem own_any (w : World) (c : Nat) (nm : ByteArray) (h : w.cell? ⟨c, 1, none⟩ = some (.string nm)) : Calls Tryz.prog 66 #[.pointer (some ⟨c, 0, none⟩)] w fun e w' => e = .returned (.string nm) ∧ w' = w := by
  go_enter Tryz.func66, Tryz.ntmps66
  go_wp2
  go_ret
  exact ⟨rfl, rfl⟩
def WN (ad : List Nat) (σ : St) (B b pm : Nat) (F : List ByteArray) (L : List Nat) : WE := ⟨ad, σ, B, b, pm, .func (.func 66) #[] #[], F, fun _ _ => True, fun _ => False, L⟩
theorem okTrue (ad : List Nat) (B : Nat) : OkK ad B (fun _ _ => True) := fun _ _ _ _ _ => trivial
set_option maxRecDepth 20000 in
set_option maxHeartbeats 1000000 in
theorem first_own (ad : List Nat) (σ : St) (B b pm : Nat) (F : List ByteArray) (L : List Nat) (hE : (WN ad σ B b pm F L).Ok) (n : Nat) (nm : ByteArray) (g : Bool) (hnd : σ[n]? = some ⟨.vr nm g, none⟩) (hF : F.getD n { data := #[] } = nm) (hpos : 0 < nm.size) : SFst (WN ad σ B b pm F L) (.nd .vr n) (.mk { data := #[] } n []) := by
  intro w v l sp es hv h hp hn hl
  have hsz : sz (.mk { data := #[] } n []) = 1 := by simp [sz, szs]
  rw [hsz] at hn hl ⊢
  obtain ⟨c, hc, rfl⟩ := hv
  have hc : ad[n]? = some c := hc
  rw [show Kd.vr.tp = 124 from rfl]
  show Calls Tryz.prog 126 #[.pointer (some ⟨b, 0, none⟩), _] w _
  have hshort : nm.size ≤ 900 := by rw [← hF]; exact hE.short n
  have HN : Hid _ := own_any w c nm (SX.vname h.st hnd hc).1
  have HS : Hid _ := tok_step _ hE w l sp es h nm hpos (by omega) (by omega)
  have t1 := Tryz.taVB (.pointer (some ⟨c, 0, none⟩)) w
  have t2 := Tryz.taVV (.pointer (some ⟨c, 0, none⟩)) w
  have c0 : w.cell? ⟨b, 0, none⟩ = some (.func (.func 66) #[] #[]) := h.tl.c.1
  have HP : Hid (∀ (w' : World), (WN ad σ B b pm F L).TX w' l (sp ++ [.tk nm]) es → (WN ad σ B b pm F L).TX w' (varsM (.mk { data := #[] } n []) l) (sp ++ [.tk nm]) es) := fun w' hT => by
    obtain ⟨q1, q2, q3, q4, q5, q6, q7, q8⟩ := hT
    refine ⟨q1, q2, q3, trivial, q5, q6, q7, fun e he => ?_⟩
    obtain ⟨T, z1, z2, z3, z4, z5⟩ := q8 e he
    exact ⟨T, z1, z2, z3, z4, varsM_idem z1.wt l _ (by rw [z5]; exact varsM_pre (m := n + 1) (.var n (by omega)) l)⟩
  clear h hp hnd hc
  go_enter Tryz.func126, Tryz.ntmps126
  go_wp2_with fail
  refine Calls.mono HN.out ?_
  rintro e w2 ⟨rfl, hww⟩
  rw [hww]
  clear HN hww w2
  go_wp2_with fail
  refine Calls.mono HS.out ?_
  rintro e w3 ⟨rfl, hT3, hk3⟩
  go_wp2
  go_end0
  refine ⟨rfl, sp ++ [.tk nm], es, HP.out w3 hT3, ?_, ?_, by simp, fun e he => .inl he, hk3⟩
  · show _ = decS sp ++ shT F _
    rw [shT_var, hF, decS_tk]
  · rw [decS_tk_size]; omega
/-- of types of which nothing was found out, nothing is written. -/
theorem SX.same {w w' : World} {ad : List Nat} {σ : St} (h : SX w ad σ) (h' : SX w' ad σ) (hr : ∀ (i : Nat) (nd : Nd), σ[i]? = some nd → nd.s = none) : ∀ c o, c ∈ ad → w.heap[c]? = some o → w'.heap[c]? = some o := by
  intro c o hc ho
  obtain ⟨τ, h1, h2⟩ := h
  obtain ⟨τ', g1, g2⟩ := h'
  obtain ⟨i, hi⟩ := List.getElem?_of_mem hc
  have hlt : i < σ.length := by
    have := (List.getElem?_eq_some_iff.1 hi).1
    rw [h1.len, h2.len] at this
    exact this
  have hs := hr i σ[i] (by simp [hlt])
  have hnd : σ[i]? = some ⟨(σ[i]).k, none⟩ := by rw [← hs]; simp [hlt]
  obtain ⟨sv, q, a1, a2, a3⟩ := h1.blk i _ _ c (h2.root hnd) hi
  obtain ⟨sv', q', b1, b2, b3⟩ := g1.blk i _ _ c (g2.root hnd) hi
  rw [a1] at ho
  simp at ho
  subst ho
  have a2 : sv = .nilIface := a2
  have b2 : sv' = .nilIface := b2
  subst a2 b2
  rw [b1]
  congr 1
  generalize (σ[i]).k = nk at *
  cases nk with
  | vr nm g => exact b3.trans (Eq.symm a3)
  | ls x =>
    obtain ⟨p, e1, rfl⟩ := a3
    obtain ⟨p', f1, rfl⟩ := b3
    rw [e1.det f1]
  | pr x y =>
    obtain ⟨p, q, e1, e2, rfl⟩ := a3
    obtain ⟨p', q', f1, f2, rfl⟩ := b3
    rw [e1.det f1, e2.det f2]
  | ar x y =>
    obtain ⟨p, q, e1, e2, rfl⟩ := a3
    obtain ⟨p', q', f1, f2, rfl⟩ := b3
    rw [e1.det f1, e2.det f2]
theorem addT_roots (vs : Nat) {m : Nat} {t : Ty} (h : WT m t) : ∀ τ : St, (∀ (i : Nat) (nd : Nd), τ[i]? = some nd → nd.s = none) → ∀ (i : Nat) (nd : Nd), (addT vs t τ).2[i]? = some nd → nd.s = none := by
  have snoc : ∀ (τ : St) (x : NK), (∀ (i : Nat) (nd : Nd), τ[i]? = some nd → nd.s = none) → ∀ (i : Nat) (nd : Nd), (τ ++ [(⟨x, none⟩ : Nd)])[i]? = some nd → nd.s = none := by
    intro τ x hτ i nd hi
    by_cases e : i < τ.length
    · rw [List.getElem?_append_left e] at hi
      exact hτ i nd hi
    · rw [List.getElem?_append_right (by omega)] at hi
      have : i - τ.length = 0 := by
        have := (List.getElem?_eq_some_iff.1 hi).1
        simp at this
        omega
      rw [this] at hi
      simp at hi
      rw [← hi]
  induction h with
  | var n hn => intro τ hτ; rw [addT_var]; exact hτ
  | int => intro τ hτ; rw [addT_int]; exact hτ
  | bool => intro τ hτ; rw [addT_bool]; exact hτ
  | list a _ ih => intro τ hτ; rw [addT_list]; exact snoc _ _ (ih τ hτ)
  | pair a b _ _ ih ih2 => intro τ hτ; rw [addT_pair]; exact snoc _ _ (ih2 _ (ih τ hτ))
  | fn a b _ _ ih ih2 => intro τ hτ; rw [addT_fn]; exact snoc _ _ (ih2 _ (ih τ hτ))
theorem addT_vars (vs : Nat) {m : Nat} {t : Ty} (h : WT m t) : ∀ τ : St, ∀ (i : Nat) (nm : ByteArray) (g : Bool) (s : Option TR), (addT vs t τ).2[i]? = some ⟨.vr nm g, s⟩ → τ[i]? = some ⟨.vr nm g, s⟩ := by
  have snoc : ∀ (τ : St) (x : NK), x.kd ≠ .vr → ∀ (i : Nat) (nm : ByteArray) (g : Bool) (s : Option TR), (τ ++ [(⟨x, none⟩ : Nd)])[i]? = some ⟨.vr nm g, s⟩ → τ[i]? = some ⟨.vr nm g, s⟩ := by
    intro τ x hx i nm g s hi
    by_cases e : i < τ.length
    · rw [List.getElem?_append_left e] at hi
      exact hi
    · rw [List.getElem?_append_right (by omega)] at hi
      have : i - τ.length = 0 := by
        have := (List.getElem?_eq_some_iff.1 hi).1
        simp at this
        omega
      rw [this] at hi
      simp at hi
      rw [hi.1] at hx
      exact absurd rfl hx
  induction h with
  | var n hn => intro τ i nm g s; rw [addT_var]; exact id
  | int => intro τ i nm g s; rw [addT_int]; exact id
  | bool => intro τ i nm g s; rw [addT_bool]; exact id
  | list a _ ih => intro τ i nm g s hi; rw [addT_list] at hi; exact ih τ i nm g s (snoc _ _ (by simp [NK.kd]) i nm g s hi)
  | pair a b _ _ ih ih2 => intro τ i nm g s hi; rw [addT_pair] at hi; exact ih τ i nm g s (ih2 _ i nm g s (snoc _ _ (by simp [NK.kd]) i nm g s hi))
  | fn a b _ _ ih ih2 => intro τ i nm g s hi; rw [addT_fn] at hi; exact ih τ i nm g s (ih2 _ i nm g s (snoc _ _ (by simp [NK.kd]) i nm g s hi))
/-- showType of a type that was read, by its own names. -/
theorem showo_any (w : World) (vb : List Nat) (lo hi : Nat) (names : List ByteArray) (t : Ty) (v : Value) (h : PTyR w vb lo hi t v) (hs : sz t ≤ 260) (hn : NB w vb names) (hd : vb.Nodup) (hN : ∀ n, n ∈ names → 0 < n.size ∧ n.size ≤ 900) :
    Calls Tryz.prog 36 #[v, .func (.func 66) #[] #[]] w fun e w' => e = .returned (.string (shT names t)) ∧ Kept w w' := by
  have h0 : SW w [] [] := ⟨rfl, List.nodup_nil, fun i nk s b hi => by simp at hi⟩
  have h1 := SW.vars names h0 hn.1 hn.2 hd (fun c _ z => by simp at z)
  simp only [List.nil_append] at h1
  obtain ⟨bl, s1, r1, _⟩ := SW.adopt h 0 vb (vrs names) h1 (fun n b hb => by simpa using hb) (fun c hc => .inl (by
    obtain ⟨j, hj, rfl⟩ := List.getElem_of_mem hc
    have := hn.2 j (hn.1 ▸ hj)
    have e : vb.getD j 0 = vb[j] := by simp [List.getD, hj]
    rw [e] at this
    exact ⟨_, _, this⟩))
  have hSE : SX w (vb ++ bl) (addT 0 t (vrs names)).2 := ⟨_, s1, Ev.refl _⟩
  have hDn : Dn (addT 0 t (vrs names)).2 (addT 0 t (vrs names)).1 t := by
    have := Dn.addT 0 h.wt (vrs names) (fun n hlt => by
      refine ⟨names.getD n { data := #[] }, false, ?_⟩
      have : n < names.length := hn.1 ▸ hlt
      simp [vrs, this])
    rw [shiftT_zero h.wt] at this
    exact this
  have hvn : ∀ (i : Nat) (nm : ByteArray) (g : Bool), (addT 0 t (vrs names)).2[i]? = some ⟨.vr nm g, none⟩ → names.getD i { data := #[] } = nm ∧ nm ∈ names := fun i nm g hi => by
    have := addT_vars 0 h.wt _ i nm g none hi
    simp only [vrs, List.getElem?_map, Option.map_eq_some_iff] at this
    obtain ⟨x, e1, e2⟩ := this
    simp at e2
    obtain ⟨rfl, _⟩ := e2
    exact ⟨by simp [List.getD, e1], List.mem_of_getElem? e1⟩
  have hshort : ∀ n, (names.getD n { data := #[] }).size ≤ 900 := fun n => by
    by_cases e : n < names.length
    · exact (hN _ (by simp [List.getD, e])).2
    · have : names.getD n { data := #[] } = { data := #[] } := by simp [List.getD, e]
      rw [this]
      decide
  have hr : ∀ (i : Nat) (nd : Nd), (addT 0 t (vrs names)).2[i]? = some nd → nd.s = none := addT_roots 0 h.wt _ (fun i nd hi => by
    simp only [vrs, List.getElem?_map, Option.map_eq_some_iff] at hi
    obtain ⟨x, _, rfl⟩ := hi
    rfl)
  refine (show_any w v (vb ++ bl) _ _ t 66 #[] names (fun _ _ => True) (fun _ => False) (varsM t []) hSE r1 hDn trivial (okTrue _ _) (fun _ z => z.elim) hshort ?_ (List.prefix_refl _) (by omega)).mono ?_
  · intro b pm i nm g hi
    obtain ⟨e1, e2⟩ := hvn i nm g hi
    exact first_own _ _ _ b pm names _ ⟨okTrue _ _, fun _ z => z.elim, hshort⟩ i nm g hi e1 (hN nm e2).1
  · rintro e w' ⟨rfl, hS', hk⟩
    refine ⟨rfl, hk.os, hk.output, hk.size, fun q hq => ?_⟩
    have e : w.heap[q]? = some w.heap[q] := by simp
    rw [e]
    by_cases hm : q ∈ vb ++ bl
    · exact hSE.same hS' hr q _ hm e
    · exact hk.blk0 q _ e (fun z => z) (fun _ z => hm z)
end Go.Proofs.YtleenphlgbklmabGreatDoor

namespace Go.Proofs.YtleenphlgbklmabGreatDoor
open Go.RowKit

mutual
def eqM : Ty → Ty → Bool
  | .mk k n l, .mk k' n' l' => (k.data.toList == k'.data.toList) && decide (n = n') && decide (l.length = l'.length) && eqMs l l'
def eqMs : List Ty → List Ty → Bool
  | [], _ => true
  | _ :: _, [] => true
  | t :: ts, u :: us => eqM t u && eqMs ts us
end
end Go.Proofs.YtleenphlgbklmabGreatDoor

namespace Go.Proofs.YtleenphlgbklmabGreatDoor
open Go.RowKit

mutual
def matM : Ty → Ty → List (Option Ty) → List (Option Ty) × Bool
  | .mk kd n kids, .mk kd' n' kids', gs =>
    if kd.data.toList == [] then
      match gs.getD n none with
      | some t => (gs, eqM t (.mk kd' n' kids'))
      | none => (gs.set n (some (.mk kd' n' kids')), true)
    else if kd.data.toList == kd'.data.toList then matMs kids kids' gs
    else (gs, false)
def matMs : List Ty → List Ty → List (Option Ty) → List (Option Ty) × Bool
  | [], _, gs => (gs, true)
  | _ :: _, [], gs => (gs, true)
  | t :: ts, u :: us, gs => if (matM t u gs).2 then matMs ts us (matM t u gs).1 else (gs, false)
end
mutual
theorem matM_len : ∀ (a b : Ty) (gs : List (Option Ty)), (matM a b gs).1.length = gs.length
  | .mk kd n kids, .mk kd' n' kids', gs => by
    simp only [matM]
    split
    · split <;> simp
    · split
      · exact matMs_len kids kids' gs
      · rfl
theorem matMs_len : ∀ (ts us : List Ty) (gs : List (Option Ty)), (matMs ts us gs).1.length = gs.length
  | [], _, gs => by simp [matMs]
  | _ :: _, [], gs => by simp [matMs]
  | t :: ts, u :: us, gs => by
    simp only [matMs]
    split
    · rw [matMs_len ts us, matM_len t u]
    · rfl
end
end Go.Proofs.YtleenphlgbklmabGreatDoor
