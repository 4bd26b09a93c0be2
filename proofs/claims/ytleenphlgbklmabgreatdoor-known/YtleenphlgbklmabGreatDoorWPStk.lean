import Derived.Test.YtleenphlgbklmabGreatDoorWPNio
import Derived.Test.YtleenphlgbklmabGreatDoorWPTyS
import Derived.Test.YtleenphlgbklmabGreatDoorWWCanon
import Derived.Test.YtleenphlgbklmabGreatDoorWTGood
import Derived.Test.YtleenphlgbklmabGreatDoorWWDeep
import Derived.Defers
import Derived.Recover
import Derived.Test.YtleenphlgbklmabGreatDoorWPKq
import Derived.Test.YtleenphlgbklmabGreatDoorWPTyC
set_option linter.unusedVariables false
set_option linter.unusedSimpArgs false
namespace Go.Proofs.YtleenphlgbklmabGreatDoor
open Go.RowKit

theorem cnN_get {l L : List Nat} (hp : l <+: L) (hd : L.Nodup) {j n : Nat} (h : l[j]? = some n) : (cnN L).getD n { data := #[] } = letM j := by
  have hj : j < l.length := (List.getElem?_eq_some_iff.1 h).1
  have hL : L[j]? = some n := by
    obtain ⟨r, rfl⟩ := hp
    rw [List.getElem?_append_left hj]
    exact h
  have hjL := (List.getElem?_eq_some_iff.1 hL).1
  have := cnA_get L (mxL L) hd (fun x hx => mxL_mem hx) L.length (Nat.le_refl _) j hjL
  have e : L.getD j 0 = n := by simp [List.getD, hL]
  rw [e] at this
  exact this
theorem idx_map (f : Nat → Nat) (n : Nat) (l : List Nat) (hf : ∀ x, x ∈ l → f n = f x → n = x) : (l.map f).findIdx? (fun x => f n == x) = l.findIdx? (fun x => n == x) := by
  induction l with
  | nil => rfl
  | cons a l ih =>
    have hi := ih (fun x hx => hf x (by simp [hx]))
    have e : (f n == f a) = (n == a) := by
      rw [Bool.eq_iff_iff, beq_iff_eq, beq_iff_eq]
      exact ⟨fun z => hf a List.mem_cons_self z, fun z => by rw [z]⟩
    simp only [List.map_cons, List.findIdx?_cons, hi, e]
theorem idx_some {l : List Nat} {n j : Nat} (h : l.findIdx? (fun x => n == x) = some j) : l[j]? = some n := by
  obtain ⟨hj, e, _⟩ := List.findIdx?_eq_some_iff_getElem.1 h
  rw [List.getElem?_eq_getElem hj]
  have := beq_iff_eq.1 e
  rw [← this]
theorem idx_none {l : List Nat} {n : Nat} (h : l.findIdx? (fun x => n == x) = none) : ¬ n ∈ l := by
  intro hm
  have := (List.findIdx?_eq_none_iff.1 h) n hm
  simp at this
/-- names in order: the numbers of the variables come to. -/
structure NOk (ad : List Nat) (σ : St) (B nb mb : Nat) (w : World) (l : List Nat) : Prop where
  nbc : w.heap[nb]? = some (.cells #[.map (some mb)] 123 (0, 0))
  nbB : nb < B
  mbB : mb < B
  mp : w.heap[mb]? = some (.map (nFrom (l.map fun n => ad.getD n 0) 0).toArray l.length)
  vr : ∀ n, n ∈ l → ∃ nm g s, σ[n]? = some ⟨.vr nm g, s⟩
theorem NOk.okk (ad : List Nat) (σ : St) (B nb mb : Nat) : OkK ad B (NOk ad σ B nb mb) := by
  intro w w' l h k
  refine ⟨k.blk _ _ h.nbc (fun z => by have z : B ≤ nb := z; have := h.nbB; omega) ?_, h.nbB, h.mbB, k.blk _ _ h.mp (fun z => by have z : B ≤ mb := z; have := h.mbB; omega) ?_, h.vr⟩
  · rintro ⟨cs, e, f, he, ht⟩
    simp only [Obj.cells.injEq] at he
    obtain ⟨_, rfl, _⟩ := he
    rcases ht with e | e | e | e <;> cases e
  · rintro ⟨cs, e, f, he, _⟩
    cases he
theorem SX.vbk {w : World} {ad : List Nat} {σ : St} (h : SX w ad σ) {n : Nat} {nm : ByteArray} {g : Bool} {s : Option TR} (hn : σ[n]? = some ⟨.vr nm g, s⟩) : ∃ c, ad[n]? = some c ∧ VBk w c := by
  obtain ⟨τ, h1, h2⟩ := h
  obtain ⟨s', h3, _⟩ := h2.kk n _ _ hn
  have hlt := (List.getElem?_eq_some_iff.1 h3).1
  have hlt : n < ad.length := by rw [h1.len]; exact hlt
  obtain ⟨sv, o, h4, _, h5⟩ := h1.blk n _ _ (ad[n]) h3 (by simp)
  refine ⟨ad[n], by simp, #[sv, .string nm, .bool g], ?_⟩
  rw [h4]
  exact congrArg some h5
/-- a writing with names in order. -/
def WO (ad : List Nat) (σ : St) (B b pm nb mb : Nat) (L : List Nat) : WE := ⟨ad, σ, B, b, pm, .func (.func 57) #[] #[.pointer (some ⟨nb, 0, none⟩)], cnN L, NOk ad σ B nb mb, (· = mb), L⟩
section
variable {ad : List Nat} {σ : St} {B b pm nb mb : Nat} {L : List Nat}
theorem num_step {w : World} {l : List Nat} {sp : List Sp} {es : List (TR × Nat × Nat)} (h : (WO ad σ B b pm nb mb L).TX w l sp es) (n c : Nat) (nm : ByteArray) (g : Bool) (s : Option TR) (hn : σ[n]? = some ⟨.vr nm g, s⟩) (hc : ad[n]? = some c) (hL : L.length ≤ 260) (hp : varsM (.mk { data := #[] } n []) l <+: L) :
    Calls Tryz.prog 57 #[.pointer (some ⟨c, 0, none⟩), .pointer (some ⟨nb, 0, none⟩)] w fun e w' => ∃ j, e = .returned (.string (letM j)) ∧ (WO ad σ B b pm nb mb L).TX w' (varsM (.mk { data := #[] } n []) l) sp es ∧ Kt ad (SN B (· = mb)) w w' ∧ (varsM (.mk { data := #[] } n []) l)[j]? = some n := by
  have hN : NOk ad σ B nb mb w l := h.ns
  have h260 := Nat.le_trans hp.length_le hL
  have hl : l <+: varsM (.mk { data := #[] } n []) l := varsM_pre (m := n + 1) (.var n (by omega)) l
  have gd : ∀ x, x ∈ l → ∃ q, ad[x]? = some q ∧ VBk w q := fun x hx => by
    obtain ⟨nm, g, s, hx⟩ := hN.vr x hx
    exact SX.vbk h.st hx
  have hgc : ad.getD n 0 = c := by simp [List.getD, hc]
  have hst : SX w ad σ := h.st
  obtain ⟨τ, hsw, _⟩ := hst
  have hinj : ∀ x, x ∈ l → ad.getD n 0 = ad.getD x 0 → n = x := fun x hx e => by
    obtain ⟨q, hq, _⟩ := gd x hx
    have e2 : ad.getD x 0 = q := by simp [List.getD, hq]
    rw [hgc, e2] at e
    subst e
    exact nodup_get hsw.inj hc hq
  have hV : VBk w c := by
    obtain ⟨c', h1, h2⟩ := SX.vbk h.st hn
    have h1 : ad[n]? = some c' := h1
    rw [hc] at h1
    simp at h1
    subst h1
    exact h2
  have hNM : NM w mb (l.map fun n => ad.getD n 0) := ⟨by rw [hN.mp]; simp, fun q hq => by
    obtain ⟨x, hx, rfl⟩ := List.mem_map.1 hq
    obtain ⟨q, hq, hb⟩ := gd x hx
    have : ad.getD x 0 = q := by simp [List.getD, hq]
    rw [this]
    exact hb⟩
  have hc0 : w.cell? ⟨nb, 0, none⟩ = some (.map (some mb)) := by simp [World.cell?, hN.nbc]
  have hi := idx_map (fun n => ad.getD n 0) n l hinj
  simp only [hgc] at hi
  have hvl := varsM_leaf n l
  cases hj : l.findIdx? (fun x => n == x) with
  | some j =>
    have hjs := idx_some hj
    have hin : inB l n = true := List.contains_iff_mem.2 (List.mem_of_getElem? hjs)
    have hjl := (List.getElem?_eq_some_iff.1 hjs).1
    rw [hin] at hvl
    simp only [if_true] at hvl
    rw [hvl] at h260 ⊢
    refine (pnum_old w nb mb _ _ hc0 hNM hV j (hi.trans hj) (by omega)).mono ?_
    rintro e w' ⟨rfl, hww⟩
    subst hww
    exact ⟨j, rfl, h, Kt.refl _ _ _, hjs⟩
  | none =>
    have hin : inB l n = false := by
      rw [Bool.eq_false_iff]
      exact fun z => idx_none hj (List.contains_iff_mem.1 z)
    rw [hin] at hvl
    simp only [Bool.false_eq_true, if_false] at hvl
    rw [hvl] at h260 hl ⊢
    simp at h260
    refine (pnum_new w nb mb _ _ hc0 hNM hV (hi.trans hj) (by simp; omega)).mono ?_
    rintro e w' ⟨rfl, hM, hk⟩
    have hmp := hN.mp
    have hB := h.bs
    have hkt : Kt ad (· = mb) w w' := Kt.of_kp hk
    have hne : nb ≠ mb := fun z => by
      have a := hN.nbc
      rw [z, hmp] at a
      cases a
    refine ⟨l.length, by simp, ⟨TL.kt h.tl hkt (fun q hq => by rw [show q = mb from hq]; exact hN.mbB), TMp.kt h.mp hkt (fun z => by have := h.pB; have z : pm = mb := z; have := hN.mbB; have : B ≤ pm := h.pB; omega), h.st.keep (fun a o ha hb => hk.blk hb (fun z => ?_)), ⟨hk.blk hN.nbc hne, hN.nbB, hN.mbB, ?_, ?_⟩, Nat.le_trans hB hk.size, h.pB, h.adB, ?_⟩, hkt.mono (fun q _ hq => .inr hq), by simp⟩
    · obtain ⟨o', h1, cs, ty, f, rfl, _⟩ := hsw.tb ha
      rw [show a = mb from z, hmp] at h1
      cases h1
    · have := hM.mp
      rw [this, List.map_append]
      simp only [List.map_cons, List.map_nil, hgc, List.length_append, List.length_map, List.length_cons, List.length_nil]
    · intro x hx
      simp at hx
      rcases hx with hx | rfl
      · exact hN.vr x hx
      · exact ⟨nm, g, s, hn⟩
    · intro e he
      obtain ⟨T, q1, q2, q3, q4, q5⟩ := h.pcs e he
      exact ⟨T, q1, q2, q3, q4, varsM_idem q1.wt l _ (by rw [q5]; exact hl)⟩
end
theorem letM_pos (n : Nat) : 0 < (letM n).size := by
  unfold letM
  split
  · simp [bytesN, ByteArray.size]
  · simp [bytesN, ByteArray.size]
set_option maxRecDepth 20000 in
set_option maxHeartbeats 1000000 in
theorem first_num (ad : List Nat) (σ : St) (B b pm nb mb : Nat) (L : List Nat) (hE : (WO ad σ B b pm nb mb L).Ok) (hd : L.Nodup) (hL : L.length ≤ 260) (n : Nat) (nm : ByteArray) (g : Bool) (hnd : σ[n]? = some ⟨.vr nm g, none⟩) : SFst (WO ad σ B b pm nb mb L) (.nd .vr n) (.mk { data := #[] } n []) := by
  intro w v l sp es hv h hp hn hl
  have hsz : sz (.mk { data := #[] } n []) = 1 := by simp [sz, szs]
  rw [hsz] at hn hl ⊢
  obtain ⟨c, hc, rfl⟩ := hv
  have hc : ad[n]? = some c := hc
  rw [show Kd.vr.tp = 124 from rfl]
  show Calls Tryz.prog 126 #[.pointer (some ⟨b, 0, none⟩), _] w _
  have HN : Hid _ := num_step h n c nm g none hnd hc hL hp
  have HS : Hid (∀ (w' : World) (j : Nat), (WO ad σ B b pm nb mb L).TX w' (varsM (.mk { data := #[] } n []) l) sp es → Calls Tryz.prog 157 #[.pointer (some ⟨b, 0, none⟩), .string (letM j)] w' fun e w'' => e = .returned (.tuple #[]) ∧ (WO ad σ B b pm nb mb L).TX w'' (varsM (.mk { data := #[] } n []) l) (sp ++ [.tk (letM j)]) es ∧ Kt ad (SN B (· = mb)) w' w'') := fun w' j hT => tok_step _ hE w' _ sp es hT (letM j) (letM_pos j) (by have := letM_size j; omega) (by omega)
  have t1 := Tryz.taVB (.pointer (some ⟨c, 0, none⟩)) w
  have t2 := Tryz.taVV (.pointer (some ⟨c, 0, none⟩)) w
  have c0 : w.cell? ⟨b, 0, none⟩ = some (.func (.func 57) #[] #[.pointer (some ⟨nb, 0, none⟩)]) := h.tl.c.1
  have HG : Hid (∀ j, (varsM (.mk { data := #[] } n []) l)[j]? = some n → shT (cnN L) (.mk { data := #[] } n []) = letM j) := fun j hj => (shT_var _ n).trans (cnN_get hp hd hj)
  clear h hp hnd hc
  go_enter Tryz.func126, Tryz.ntmps126
  go_wp2_with fail
  refine Calls.mono HN.out ?_
  rintro e w2 ⟨j, rfl, hT, hk, hj⟩
  have HS2 : Hid _ := HS.out w2 j hT
  clear HS HN hT
  go_wp2_with fail
  refine Calls.mono HS2.out ?_
  rintro e w3 ⟨rfl, hT3, hk3⟩
  go_wp2
  go_end0
  have e := HG.out j hj
  refine ⟨rfl, sp ++ [.tk (letM j)], es, hT3, ?_, ?_, by simp, fun e he => .inl he, hk.trans hk3⟩
  · show _ = decS sp ++ shT (cnN L) _
    rw [e, decS_tk]
  · rw [decS_tk_size]; have := letM_size j; omega
end Go.Proofs.YtleenphlgbklmabGreatDoor

namespace Go.Proofs.YtleenphlgbklmabGreatDoor
open Go.RowKit

theorem cnA_short (ns : List Nat) (m q : Nat) : ∀ x, x ∈ cnA ns m q → x.size ≤ 900 := by
  induction q with
  | zero =>
    intro x hx
    simp [cnA] at hx
    rw [hx.2]
    decide
  | succ q ih =>
    intro x hx
    rcases List.mem_or_eq_of_mem_set hx with h | h
    · exact ih x h
    · rw [h]; have := letM_size q; omega
theorem cnN_short (L : List Nat) (n : Nat) : ((cnN L).getD n { data := #[] }).size ≤ 900 := by
  by_cases h : n < (cnN L).length
  · have : (cnN L).getD n { data := #[] } ∈ cnN L := by simp [List.getD, h]
    exact cnA_short _ _ _ _ this
  · have : (cnN L).getD n { data := #[] } = { data := #[] } := by simp [List.getD, h]
    rw [this]
    decide
/-- showType, with names in order. -/
theorem show_num (w : World) (nb mb : Nat) (ad : List Nat) (σ : St) (r : TR) (t : Ty) (v : Value) (hs : SX w ad σ) (hv : RV ad r v) (hd : Dn σ r t) (hsz : sz t ≤ 260) (hnb : w.heap[nb]? = some (.cells #[.map (some mb)] 123 (0, 0))) (hm : w.heap[mb]? = some (.map #[] 0)) :
    Calls Tryz.prog 36 #[v, .func (.func 57) #[] #[.pointer (some ⟨nb, 0, none⟩)]] w fun e w' => e = .returned (.string (canT t)) ∧ SX w' ad σ ∧ Kt ad (· = mb) w w' := by
  have hnd : (varsM t []).Nodup := varsM_nodup hd.wt [] List.nodup_nil
  have hL : (varsM t []).length ≤ 260 := by have := (varsM_len t []).2; simp at this; omega
  have hmb := lt_of_block hm
  refine show_any w v ad σ r t 57 #[.pointer (some ⟨nb, 0, none⟩)] (cnN (varsM t [])) (NOk ad σ w.heap.size nb mb) (· = mb) (varsM t []) hs hv hd ⟨hnb, lt_of_block hnb, hmb, by simpa [nFrom] using hm, by simp⟩ (NOk.okk _ _ _ _ _) (fun q hq => by rw [show q = mb from hq]; exact hmb) (cnN_short _) ?_ (List.prefix_refl _) (by omega)
  intro b pm i nm g hi
  exact first_num ad σ w.heap.size b pm nb mb _ ⟨NOk.okk _ _ _ _ _, (fun q hq => by rw [show q = mb from hq]; exact hmb), cnN_short _⟩ hnd hL i nm g hi
end Go.Proofs.YtleenphlgbklmabGreatDoor

namespace Go.Proofs.YtleenphlgbklmabGreatDoor

def End2 (r : List UInt8) : Prop := r = [] ∨ ∃ c q, r = c :: q ∧ (c = 93 ∨ c = 41 ∨ c = 44 ∨ c = 32)
/-- the text of a type, as bytes; of one at the left of an arrow. -/
def sT (names : List ByteArray) (t : Ty) : List UInt8 := (shT names t).data.toList
def isArr (t : Ty) : Bool := t.kind.data.toList == ({ data := #[102, 117, 110] } : ByteArray).data.toList
def lT (names : List ByteArray) (t : Ty) : List UInt8 := if isArr t then 40 :: (sT names t ++ [41]) else sT names t
section
variable {names : List ByteArray}
def QA (names : List ByteArray) (t : Ty) : Prop := ∀ u r s, WT names.length u → End2 r → End2 s → lT names t ++ r = lT names u ++ s → t = u ∧ r = s
end
end Go.Proofs.YtleenphlgbklmabGreatDoor

namespace Go.Proofs.YtleenphlgbklmabGreatDoor
open Go.RowKit

theorem Tryz.taRef (v : Value) (w : World) : (Instr.typeAssert (.iface 185 (.agg #[v])) 20 185 true).run Tryz.prog w = .ok (.tuple #[.agg #[v], .bool true]) w := by kernel_rfl
set_option maxRecDepth 20000 in
theorem prefused_any (T : TypeId) (u : Value) (w : World) : Calls Tryz.prog 49 #[.iface 185 (.agg #[.iface T u])] w fun e w' => e = .returned (.iface T u) ∧ w' = w.alloc (.cells #[.iface T u] 185) := by
  have hta := Tryz.taRef (.iface T u) w
  go_enter Tryz.func49, Tryz.ntmps49
  go_wp2
  go_ret
  exact ⟨rfl, rfl⟩
set_option maxRecDepth 20000 in
theorem catchT_idle (p q : Addr) (w : World) :
    CallsD Tryz.prog 48 #[.pointer (some p), .pointer (some q)] .returning w fun e u' w' => e = .returned (.tuple #[]) ∧ u' = .returning ∧ w' = w := by
  refine callsD_of_wpS Tryz.func48 rfl fun c₀ cs hu => ?_
  apply wpS_seq
  apply wpS_region
  simp [wpOpsS, go_sem, recoverD, hu, Tryz.ntmps48, Exit.thenS]
  refine wpS_of_wp ?_
  show Code.wp _ _ _ ⟨#[.pointer (some p), .pointer (some q), .nilIface, .nilIface, undef, undef, undef, undef], []⟩ w
  go_wp2
  cases c₀
  simp_all [bodyPostS, results, Tryz.results48]
set_option maxRecDepth 20000 in
theorem catchT_panicking (p q : Addr) (x y : Value) (T : TypeId) (z : Value) (older : List PanicEntry) (w : World) (hp : w.cell? p = some x) (hpf : w.frozen? p = false) (hq : w.cell? q = some y) (hqf : w.frozen? q = false) (hpq : p ≠ q) :
    CallsD Tryz.prog 48 #[.pointer (some p), .pointer (some q)] (.panicking ({ v := .iface 185 (.agg #[.iface T z]), recovered := false } :: older)) w fun e u' w' =>
      e = .returned (.tuple #[]) ∧ u' = .panicking ({ v := .iface 185 (.agg #[.iface T z]), recovered := true } :: older) ∧ w' = ((w.alloc (.cells #[.iface T z] 185)).setCell p .nilIface).setCell q (.iface T z) := by
  refine callsD_of_wpS Tryz.func48 rfl fun c₀ cs hu => ?_
  apply wpS_seq
  apply wpS_region
  simp [wpOpsS, go_sem, recoverD, hu, Tryz.ntmps48, Exit.thenS]
  refine wpS_of_wp ?_
  show Code.wp _ _ _ ⟨#[.pointer (some p), .pointer (some q), .iface 185 (.agg #[.iface T z]), .iface 185 (.agg #[.iface T z]), undef, undef, undef, undef], []⟩ w
  have hpl := World.block_lt_of_cell? _ _ hp
  have hql := World.block_lt_of_cell? _ _ hq
  have bp := Below.heap_alloc w (.cells #[.iface T z] 185) p.block hpl
  have bq := Below.heap_alloc w (.cells #[.iface T z] 185) q.block hql
  have hp1 := (World.cell?_of_block (a := p) bp).trans hp
  have hpf1 := (World.frozen?_of_block (a := p) bp).trans hpf
  have hq1 := (World.cell?_of_block (a := q) bq).trans hq
  have hqf1 := (World.frozen?_of_block (a := q) bq).trans hqf
  have hq2 : ((w.alloc (.cells #[.iface T z] 185)).setCell p .nilIface).cell? q = some y := (World.cell?_setCell_other _ _ _ _ hpq).trans hq1
  have hqf2 : ((w.alloc (.cells #[.iface T z] 185)).setCell p .nilIface).frozen? q = false := (World.frozen?_setCell _ _ _ _).trans hqf1
  have HR : Hid _ := prefused_any T z w
  go_wp2_with (go_at_call 49; refine Calls.mono HR.out ?_; rintro e w' ⟨rfl, hww⟩; rw [hww]; clear hww w')
  simp [bodyPostS, results, Tryz.results48]
set_option maxRecDepth 20000 in
theorem catchE_idle (p q : Addr) (w : World) :
    CallsD Tryz.prog 74 #[.pointer (some p), .pointer (some q)] .returning w fun e u' w' => e = .returned (.tuple #[]) ∧ u' = .returning ∧ w' = w := by
  refine callsD_of_wpS Tryz.func74 rfl fun c₀ cs hu => ?_
  apply wpS_seq
  apply wpS_region
  simp [wpOpsS, go_sem, recoverD, hu, Tryz.ntmps74, Exit.thenS]
  refine wpS_of_wp ?_
  show Code.wp _ _ _ ⟨#[.pointer (some p), .pointer (some q), .nilIface, .nilIface, undef, undef, undef, undef], []⟩ w
  go_wp2
  cases c₀
  simp_all [bodyPostS, results, Tryz.results74]
set_option maxRecDepth 20000 in
theorem catchE_panicking (p q : Addr) (x y : Value) (T : TypeId) (z : Value) (older : List PanicEntry) (w : World) (hp : w.cell? p = some x) (hpf : w.frozen? p = false) (hq : w.cell? q = some y) (hqf : w.frozen? q = false) (hpq : p ≠ q) :
    CallsD Tryz.prog 74 #[.pointer (some p), .pointer (some q)] (.panicking ({ v := .iface 185 (.agg #[.iface T z]), recovered := false } :: older)) w fun e u' w' =>
      e = .returned (.tuple #[]) ∧ u' = .panicking ({ v := .iface 185 (.agg #[.iface T z]), recovered := true } :: older) ∧ w' = ((w.alloc (.cells #[.iface T z] 185)).setCell p .nilIface).setCell q (.iface T z) := by
  refine callsD_of_wpS Tryz.func74 rfl fun c₀ cs hu => ?_
  apply wpS_seq
  apply wpS_region
  simp [wpOpsS, go_sem, recoverD, hu, Tryz.ntmps74, Exit.thenS]
  refine wpS_of_wp ?_
  show Code.wp _ _ _ ⟨#[.pointer (some p), .pointer (some q), .iface 185 (.agg #[.iface T z]), .iface 185 (.agg #[.iface T z]), undef, undef, undef, undef], []⟩ w
  have hpl := World.block_lt_of_cell? _ _ hp
  have hql := World.block_lt_of_cell? _ _ hq
  have bp := Below.heap_alloc w (.cells #[.iface T z] 185) p.block hpl
  have bq := Below.heap_alloc w (.cells #[.iface T z] 185) q.block hql
  have hp1 := (World.cell?_of_block (a := p) bp).trans hp
  have hpf1 := (World.frozen?_of_block (a := p) bp).trans hpf
  have hq1 := (World.cell?_of_block (a := q) bq).trans hq
  have hqf1 := (World.frozen?_of_block (a := q) bq).trans hqf
  have hq2 : ((w.alloc (.cells #[.iface T z] 185)).setCell p .nilIface).cell? q = some y := (World.cell?_setCell_other _ _ _ _ hpq).trans hq1
  have hqf2 : ((w.alloc (.cells #[.iface T z] 185)).setCell p .nilIface).frozen? q = false := (World.frozen?_setCell _ _ _ _).trans hqf1
  have HR : Hid _ := prefused_any T z w
  go_wp2_with (go_at_call 49; refine Calls.mono HR.out ?_; rintro e w' ⟨rfl, hww⟩; rw [hww]; clear hww w')
  simp [bodyPostS, results, Tryz.results74]
end Go.Proofs.YtleenphlgbklmabGreatDoor

namespace Go.Proofs.YtleenphlgbklmabGreatDoor
open Go.RowKit

theorem ptref_all (s : ByteArray) (kws : List ByteArray) (L : List Tk) (hE : PEnv s kws L) (hkw : kws = [{ data := #[105, 110, 116] }, { data := #[98, 111, 111, 108] }]) (n : Nat) : SPTyp s L n ∧ SPOne s L n := by
  have hki : { data := #[105, 110, 116] } ∈ kws := by rw [hkw]; simp
  have hkb : { data := #[98, 111, 111, 108] } ∈ kws := by rw [hkw]; simp
  induction n with
  | zero =>
    refine ⟨?_, ?_⟩
    · intro w rb mb k names vb t names' k' bad' h hv hok hne hM
      simp [arrowM] at hM
    · intro w rb mb k names vb t names' k' bad' h hv hok hne hM
      simp [oneM] at hM
  | succ n ih =>
    refine ⟨ptyp_step s kws L hE n ih.1 ih.2, ?_⟩
    intro w rb mb k names vb t names' k' bad' h hv hok hne hM
    simp only [oneM] at hM
    cases h0 : isM L { data := #[105, 110, 116] } k (-1)
    · rw [h0] at hM
      cases h1 : isM L { data := #[98, 111, 111, 108] } k (-1)
      · rw [h1] at hM
        cases h2 : isM L { data := #[110, 97, 109, 101] } k (-1)
        · cases h3 : isM L { data := #[91] } k (-1)
          · rw [h3] at hM
            cases h4 : isM L { data := #[40] } k (-1)
            · rw [h4] at hM
              simp only [Bool.false_eq_true, if_false, Option.some.injEq, Prod.mk.injEq] at hM
              obtain ⟨_, _, _, rfl⟩ := hM
              rw [(needB_false h2 (by omega)).1]
              exact pone_bad s kws L hE hki hkb w rb mb k names vb t names' k' h hv hok hne hkw h0 h1 h2 h3 h4
            · rw [h4] at hM
              simp only [Bool.false_eq_true, if_false, if_true] at hM
              obtain ⟨⟨x, n1, k1, b1⟩, q1, q2⟩ := Option.bind_eq_some_iff.1 hM
              exact pone_brk s kws L hE hki hkb w rb mb k names vb t names' k' bad' h hv hok hne hkw h0 h1 h2 h3 h4 (fun w1 hp1 hv1 => pbrk_any s kws L hE n ih.1 w1 rb mb k names vb x n1 k1 b1 t names' k' bad' hp1 hv1 hok hne h4 q1 q2)
          · rw [h3] at hM
            simp only [Bool.false_eq_true, if_false, if_true] at hM
            obtain ⟨⟨x, n1, k1, b1⟩, q1, q2⟩ := Option.bind_eq_some_iff.1 hM
            simp only [Option.some.injEq, Prod.mk.injEq] at q2
            obtain ⟨rfl, rfl, rfl, rfl⟩ := q2
            exact pone_list s kws L hE hki hkb w rb mb k names vb _ _ _ _ h hv hok hne hkw h0 h1 h2 h3 (fun w1 hp1 hv1 => plist_any s kws L hE n ih.1 w1 rb mb k names vb x n1 k1 b1 hp1 hv1 hok hne h3 q1)
        · have h3 : isM L { data := #[91] } k (-1) = false := by
            simp only [isM, Bool.and_eq_true] at h2
            simp only [isM]
            rw [(sameS_iff (tkAt L k).is { data := #[110, 97, 109, 101] }).1 h2.2]
            decide
          have h4 : isM L { data := #[40] } k (-1) = false := by
            simp only [isM, Bool.and_eq_true] at h2
            simp only [isM]
            rw [(sameS_iff (tkAt L k).is { data := #[110, 97, 109, 101] }).1 h2.2]
            decide
          rw [h3, h4] at hM
          simp only [Bool.false_eq_true, if_false, Option.some.injEq, Prod.mk.injEq] at hM
          obtain ⟨rfl, rfl, rfl, rfl⟩ := hM
          rw [(needB_true h2).1, (needB_true h2).2]
          exact pone_name s kws L hE hki hkb w rb mb k names vb h hv hok hne h0 h1 h2
      · rw [h1] at hM
        simp only [Bool.false_eq_true, if_false, if_true, Option.some.injEq, Prod.mk.injEq] at hM
        obtain ⟨rfl, rfl, rfl, rfl⟩ := hM
        exact pone_bool s kws L hE hki hkb w rb mb k names vb h hv hok hne h0 h1
    · rw [h0] at hM
      simp only [if_true, Option.some.injEq, Prod.mk.injEq] at hM
      obtain ⟨rfl, rfl, rfl, rfl⟩ := hM
      exact pone_int s kws L hE hki hkb w rb mb k names vb h hv hok hne h0
end Go.Proofs.YtleenphlgbklmabGreatDoor

namespace Go.Proofs.YtleenphlgbklmabGreatDoor

/-- the fault that stands in a state of the reader: one that was told, or the token that is none. -/
def bz (l : List Tk) (k : Nat) (bad : Int) : Int := if 0 ≤ bad then bad else if (tkAt l k).is = { data := #[110, 111, 110, 101] } then ((tkAt l k).loc : Int) else -1
section
variable {l : List Tk} {k : Nat} {bad : Int}
theorem bz_ge (h : 0 ≤ bad) : bz l k bad = bad := by unfold bz; rw [if_pos h]
theorem bz_none (h : bad < 0) (hn : (tkAt l k).is = { data := #[110, 111, 110, 101] }) : bz l k bad = (tkAt l k).loc := by unfold bz; rw [if_neg (by omega), if_pos hn]
theorem bz_neg (h : bz l k bad < 0) : bad < 0 ∧ (tkAt l k).is ≠ { data := #[110, 111, 110, 101] } := by
  unfold bz at h
  split at h
  · omega
  · split at h
    · omega
    · exact ⟨by omega, by assumption⟩
theorem bz_ok (h : bad < 0) (hn : (tkAt l k).is ≠ { data := #[110, 111, 110, 101] }) : bz l k bad = -1 := by unfold bz; rw [if_neg (by omega), if_neg hn]
theorem bz_self (h : 0 ≤ bz l k bad) : bz l k (bz l k bad) = bz l k bad := bz_ge h
theorem isM_bz {q : ByteArray} (h : 0 ≤ bz l k bad) (hq : q.data.toList ≠ ({ data := #[110, 111, 110, 101] } : ByteArray).data.toList) : isM l q k bad = false := by
  by_cases h1 : 0 ≤ bad
  · exact isM_geT h1
  · by_cases h2 : (tkAt l k).is = { data := #[110, 111, 110, 101] }
    · exact isM_none h2 hq
    · rw [bz_ok (by omega) h2] at h; omega
theorem need_bz {q : ByteArray} (h : 0 ≤ bz l k bad) (hq : q.data.toList ≠ ({ data := #[110, 111, 110, 101] } : ByteArray).data.toList) : takeK l q k bad = k ∧ needB l q k bad = bz l k bad := by
  have e := isM_bz h hq
  unfold takeK needB
  rw [e]
  refine ⟨rfl, ?_⟩
  by_cases h1 : 0 ≤ bad
  · rw [bz_ge h1, if_neg (by simp; omega)]
  · by_cases h2 : (tkAt l k).is = { data := #[110, 111, 110, 101] }
    · rw [bz_none (by omega) h2, if_pos (by simp; omega)]
    · rw [bz_ok (by omega) h2] at h; omega
theorem need_bz' {q : ByteArray} (h : 0 ≤ bz l k bad) (hq : q.data.toList ≠ ({ data := #[110, 111, 110, 101] } : ByteArray).data.toList) : bz l (takeK l q k bad) (needB l q k bad) = bz l k bad := by
  rw [(need_bz h hq).1, (need_bz h hq).2]; exact bz_self h
theorem dup_ge {names : List ByteArray} {s : ByteArray} {loc : Nat} (h : 0 ≤ bad) : dupB names s loc bad = bad := by
  unfold dupB
  rw [if_neg (by simp; omega)]
end

/-- a fault once told stays. -/
structure Stk (l : List Tk) (n : Nat) : Prop where
  ex : ∀ k bad x k' bad', expM l n k bad = some (x, k', bad') → 0 ≤ bz l k bad → bz l k' bad' = bz l k bad
  bo : ∀ names kids k bad ns' ks' k' bad', boundM l n names kids k bad = some (ns', ks', k', bad') → 0 ≤ bz l k bad → bz l k' bad' = bz l k bad
  an : ∀ names kids k bad ns' ks' k' bad', andM l n names kids k bad = some (ns', ks', k', bad') → 0 ≤ bz l k bad → bz l k' bad' = bz l k bad
  at' : ∀ k bad x k' bad', atomM l n k bad = some (x, k', bad') → 0 ≤ bz l k bad → bz l k' bad' = bz l k bad
  ap : ∀ x k bad x' k' bad', appM l n x k bad = some (x', k', bad') → 0 ≤ bz l k bad → bz l k' bad' = bz l k bad
theorem stk (l : List Tk) : ∀ n, Stk l n := by
  intro n
  induction n with
  | zero => exact ⟨fun _ _ _ _ _ h => by simp [expM] at h, fun _ _ _ _ _ _ _ _ h => by simp [boundM] at h, fun _ _ _ _ _ _ _ _ h => by simp [andM] at h, fun _ _ _ _ _ h => by simp [atomM] at h, fun _ _ _ _ _ _ h => by simp [appM] at h⟩
  | succ n ih =>
    refine ⟨?_, ?_, ?_, ?_, ?_⟩
    · intro k bad x k' bad' h hz
      simp only [expM, isM_bz hz (show ({ data := #[102, 117, 110] } : ByteArray).data.toList ≠ ({ data := #[110, 111, 110, 101] } : ByteArray).data.toList by decide), isM_bz hz (show ({ data := #[105, 102] } : ByteArray).data.toList ≠ ({ data := #[110, 111, 110, 101] } : ByteArray).data.toList by decide), isM_bz hz (show ({ data := #[108, 101, 116] } : ByteArray).data.toList ≠ ({ data := #[110, 111, 110, 101] } : ByteArray).data.toList by decide), Bool.false_eq_true, if_false] at h
      split at h
      · simp only [Option.some.injEq, Prod.mk.injEq] at h
        obtain ⟨_, rfl, rfl⟩ := h
        rfl
      · obtain ⟨⟨x1, k1, b1⟩, h1, h2⟩ := Option.bind_eq_some_iff.1 h
        have e := ih.at' _ _ _ _ _ h1 hz
        exact (ih.ap _ _ _ _ _ _ h2 (by simp only; omega)).trans e
    · intro names kids k bad ns' ks' k' bad' h hz
      simp only [boundM] at h
      obtain ⟨⟨x1, k1, b1⟩, h1, h2⟩ := Option.bind_eq_some_iff.1 h
      simp only [Option.some.injEq, Prod.mk.injEq] at h2
      obtain ⟨_, _, rfl, rfl⟩ := h2
      have e1 := need_bz hz (show ({ data := #[110, 97, 109, 101] } : ByteArray).data.toList ≠ ({ data := #[110, 111, 110, 101] } : ByteArray).data.toList by decide)
      rw [e1.1, e1.2, dup_ge hz] at h1
      have hz2 : 0 ≤ bz l k (bz l k bad) := by rw [bz_self hz]; exact hz
      have e2 := need_bz hz2 (show ({ data := #[61] } : ByteArray).data.toList ≠ ({ data := #[110, 111, 110, 101] } : ByteArray).data.toList by decide)
      rw [e2.1, e2.2, bz_self hz] at h1
      rw [ih.ex _ _ _ _ _ h1 hz2, bz_self hz]
    · intro names kids k bad ns' ks' k' bad' h hz
      simp only [andM, isM_bz hz (show ({ data := #[97, 110, 100] } : ByteArray).data.toList ≠ ({ data := #[110, 111, 110, 101] } : ByteArray).data.toList by decide), Bool.false_eq_true, if_false, Option.some.injEq, Prod.mk.injEq] at h
      obtain ⟨_, _, rfl, rfl⟩ := h
      rfl
    · intro k bad x k' bad' h hz
      simp only [atomM, isM_bz hz (show ({ data := #[110, 97, 109, 101] } : ByteArray).data.toList ≠ ({ data := #[110, 111, 110, 101] } : ByteArray).data.toList by decide), isM_bz hz (show ({ data := #[110, 117, 109] } : ByteArray).data.toList ≠ ({ data := #[110, 111, 110, 101] } : ByteArray).data.toList by decide), Bool.or_false, Bool.false_eq_true, if_false] at h
      obtain ⟨⟨x1, k1, b1⟩, h1, h2⟩ := Option.bind_eq_some_iff.1 h
      have e1 := need_bz hz (show ({ data := #[40] } : ByteArray).data.toList ≠ ({ data := #[110, 111, 110, 101] } : ByteArray).data.toList by decide)
      rw [e1.1, e1.2] at h1
      have hz2 : 0 ≤ bz l k (bz l k bad) := by rw [bz_self hz]; exact hz
      have e2 := ih.ex _ _ _ _ _ h1 hz2
      rw [bz_self hz] at e2
      have hz3 : 0 ≤ bz l k1 b1 := by omega
      simp only [isM_bz hz3 (show ({ data := #[44] } : ByteArray).data.toList ≠ ({ data := #[110, 111, 110, 101] } : ByteArray).data.toList by decide), Bool.false_eq_true, if_false, Option.some.injEq, Prod.mk.injEq] at h2
      obtain ⟨_, rfl, rfl⟩ := h2
      rw [need_bz' hz3 (by decide), e2]
    · intro x k bad x' k' bad' h hz
      simp only [appM, isM_bz hz (show ({ data := #[110, 97, 109, 101] } : ByteArray).data.toList ≠ ({ data := #[110, 111, 110, 101] } : ByteArray).data.toList by decide), isM_bz hz (show ({ data := #[110, 117, 109] } : ByteArray).data.toList ≠ ({ data := #[110, 111, 110, 101] } : ByteArray).data.toList by decide), isM_bz hz (show ({ data := #[40] } : ByteArray).data.toList ≠ ({ data := #[110, 111, 110, 101] } : ByteArray).data.toList by decide), Bool.or_false, Bool.false_eq_true, if_false, Option.some.injEq, Prod.mk.injEq] at h
      obtain ⟨_, rfl, rfl⟩ := h
      rfl
end Go.Proofs.YtleenphlgbklmabGreatDoor
