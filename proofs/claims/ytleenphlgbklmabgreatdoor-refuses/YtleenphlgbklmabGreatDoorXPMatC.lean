import Derived.Test.YtleenphlgbklmabGreatDoorXPCk
import Derived.Test.YtleenphlgbklmabGreatDoorXWMat
import Derived.Deep.RegionHeld3
set_option linter.unusedVariables false
set_option linter.unusedSimpArgs false
namespace Go.Proofs.YtleenphlgbklmabGreatDoor
open Go.RowKit

mutual
theorem eqM_iff : ∀ t u : Ty, eqM t u = true ↔ t = u
  | .mk k n l, .mk k' n' l' => by
    simp only [eqM, Bool.and_eq_true, decide_eq_true_eq, beq_iff_eq]
    constructor
    · rintro ⟨⟨⟨h1, h2⟩, h3⟩, h4⟩
      have e1 : k = k' := ByteArray.ext (Array.toList_inj.1 h1)
      have e3 := (eqMs_iff l l' h3).1 h4
      rw [e1, h2, e3]
    · intro h
      injection h with e1 e2 e3
      subst e1 e2 e3
      exact ⟨⟨⟨rfl, rfl⟩, rfl⟩, (eqMs_iff l l rfl).2 rfl⟩
theorem eqMs_iff : ∀ (ts us : List Ty), ts.length = us.length → (eqMs ts us = true ↔ ts = us)
  | [], [], _ => by simp [eqMs]
  | [], _ :: _, h => by simp at h
  | _ :: _, [], h => by simp at h
  | t :: ts, u :: us, h => by
    simp only [eqMs, Bool.and_eq_true, List.cons.injEq]
    rw [eqM_iff t u, eqMs_iff ts us (by simpa using h)]
end
/-- what is known so far, in the program's map and in the document's list. -/
structure MG (names own : List ByteArray) (kv : List (ByteArray × ByteArray)) (gs : List (Option Ty)) : Prop where
  len : gs.length = names.length
  got : ∀ n t, gs.getD n none = some t → ∃ j, kv.findIdx? (fun y => sameS y.1 (names.getD n { data := #[] })) = some j ∧ (kAt kv j).2 = shT own t ∧ WT own.length t
  not : ∀ n, n < names.length → gs.getD n none = none → kv.findIdx? (fun y => sameS y.1 (names.getD n { data := #[] })) = none
  key : ∀ y, y ∈ kv → ∃ n, n < names.length ∧ y.1 = names.getD n { data := #[] } ∧ gs.getD n none ≠ none
theorem matM_var (n : Nat) (u : Ty) (gs : List (Option Ty)) : matM (.mk { data := #[] } n []) u gs = match gs.getD n none with | some t => (gs, eqM t u) | none => (gs.set n (some u), true) := by
  cases u with
  | mk k' n' l' =>
    simp only [matM]
    rfl
theorem names_inj {names : List ByteArray} (h : names.Nodup) {a b : Nat} (ha : a < names.length) (hb : b < names.length) (e : names.getD a { data := #[] } = names.getD b { data := #[] }) : a = b := by
  have e1 : names[a] = names[b] := by simpa [List.getD, ha, hb] using e
  rcases Nat.lt_trichotomy a b with q | q | q
  · exact absurd e1 ((List.pairwise_iff_getElem.1 h) a b ha hb q)
  · exact q
  · exact absurd e1.symm ((List.pairwise_iff_getElem.1 h) b a hb ha q)
theorem findIdx_snoc {kv : List (ByteArray × ByteArray)} {p : ByteArray × ByteArray → Bool} (x : ByteArray × ByteArray) : (kv ++ [x]).findIdx? p = match kv.findIdx? p with | some j => some j | none => if p x then some kv.length else none := by
  rw [List.findIdx?_append]
  cases kv.findIdx? p with
  | some j => simp
  | none =>
    cases h : p x <;> simp [h]
theorem MG.new {names own : List ByteArray} {kv : List (ByteArray × ByteArray)} {gs : List (Option Ty)} (h : MG names own kv gs) (hN : names.Nodup) (n : Nat) (hn : n < names.length) (u : Ty) (hu : WT own.length u) (hg : gs.getD n none = none) : MG names own (kv ++ [(names.getD n { data := #[] }, shT own u)]) (gs.set n (some u)) := by
  have hl := h.len
  have gd : ∀ m, (gs.set n (Option.some u)).getD m Option.none = if m = n then Option.some u else gs.getD m Option.none := by
    intro m
    by_cases e : m = n
    · subst e
      simp [List.getD, List.getElem?_set, hl, hn]
    · simp [List.getD, List.getElem?_set, e, Ne.symm e]
  refine ⟨by simp [hl], ?_, ?_, ?_⟩
  · intro m t hm
    rw [gd] at hm
    rw [findIdx_snoc]
    by_cases e : m = n
    · subst e
      rw [if_pos rfl] at hm
      obtain rfl := Option.some.inj hm
      rw [h.not m hn hg]
      refine ⟨kv.length, ?_, by simp [kAt, List.getD], hu⟩
      simp [sameS]
    · rw [if_neg e] at hm
      obtain ⟨j, h1, h2, h3⟩ := h.got m t hm
      refine ⟨j, by rw [h1], ?_, h3⟩
      have hj : j < kv.length := (List.findIdx?_eq_some_iff_getElem.1 h1).1
      rw [← h2]
      simp [kAt, List.getD, List.getElem?_append_left hj]
  · intro m hm hmg
    rw [gd] at hmg
    by_cases e : m = n
    · rw [if_pos e] at hmg; cases hmg
    · rw [if_neg e] at hmg
      rw [findIdx_snoc, h.not m hm hmg]
      have : sameS (names.getD n { data := #[] }) (names.getD m { data := #[] }) = false := by
        rw [Bool.eq_false_iff]
        intro q
        exact e (names_inj hN hn hm ((sameS_iff _ _).1 q)).symm
      simp only [this]
      rfl
  · intro y hy
    rcases List.mem_append.1 hy with hy | hy
    · obtain ⟨m, h1, h2, h3⟩ := h.key y hy
      refine ⟨m, h1, h2, ?_⟩
      rw [gd]
      split
      · simp
      · exact h3
    · simp at hy
      subst hy
      exact ⟨n, hn, rfl, by rw [gd, if_pos rfl]; simp⟩
theorem bind_any (w : World) (mb : Nat) (kv : List (ByteArray × ByteArray)) (names own : List ByteArray) (gs : List (Option Ty)) (n : Nat) (u : Ty) (hS : SM w mb kv) (hM : MG names own kv gs) (hN : names.Nodup) (hn : n < names.length) (hs : (names.getD n { data := #[] }).size ≤ 1000000) (hO : NW own) (hu : WT own.length u) :
    Calls Tryz.prog 65 #[.map (some mb), .string (names.getD n { data := #[] }), .string (shT own u)] w fun e w' => ∃ kv', e = .returned (.bool (matM (.mk { data := #[] } n []) u gs).2) ∧ SM w' mb kv' ∧ ((matM (.mk { data := #[] } n []) u gs).2 = true → MG names own kv' (matM (.mk { data := #[] } n []) u gs).1) ∧ Kp (· = mb) w w' := by
  rw [matM_var]
  cases hg : gs.getD n none with
  | some t =>
    obtain ⟨j, h1, h2, h3⟩ := hM.got n t hg
    refine (bind_old w mb kv _ (shT own u) hS j h1).mono ?_
    rintro e w' ⟨rfl, hk⟩
    have e1 : sameS (kAt kv j).2 (shT own u) = eqM t u := by
      rw [h2]
      rw [Bool.eq_iff_iff, sameS_iff, eqM_iff]
      exact ⟨fun e => shT_inj hO h3 hu e, fun e => by rw [e]⟩
    refine ⟨kv, by rw [e1], hS.kp hk (fun z => z), fun _ => hM, hk.mono (fun _ _ z => z.elim)⟩
  | none =>
    have h1 := hM.not n hn hg
    refine (bind_new w mb kv _ (shT own u) hS h1 hs).mono ?_
    rintro e w' ⟨rfl, hS', hk⟩
    exact ⟨_, rfl, hS', fun _ => hM.new hN n hn u hu hg, hk⟩
end Go.Proofs.YtleenphlgbklmabGreatDoor

namespace Go.Proofs.YtleenphlgbklmabGreatDoor
open Go.RowKit

/-- the two types, and what is known so far. -/
structure MW (w : World) (mb : Nat) (names own : List ByteArray) (vg vs : List Nat) (kv : List (ByteArray × ByteArray)) (gs : List (Option Ty)) : Prop where
  ng : NB w vg names
  ns : NB w vs own
  nd : vs.Nodup
  sm : SM w mb kv
  mg : MG names own kv gs
/-- what does not change. -/
structure MC (names own : List ByteArray) : Prop where
  nn : names.Nodup
  sh : ∀ n, n ∈ names → n.size ≤ 1000000
  ow : NW own
  os : ∀ n, n ∈ own → 0 < n.size ∧ n.size ≤ 900
theorem NB.kq {w w' : World} {mb : Nat} {vb : List Nat} {names : List ByteArray} {es : Array MapEntry} {c : Nat} (h : NB w vb names) (k : Kq (· = mb) w w') (hm : w.heap[mb]? = some (.map es c)) : NB w' vb names := ⟨h.1, fun j hj => by
  have := h.2 j hj
  exact (k.block _ (lt_of_block this) (fun z => by rw [show _ = mb from z, hm] at this; cases this)).trans this⟩
theorem PTyR.kq {w w' : World} {mb : Nat} {vb : List Nat} {lo hi : Nat} {t : Ty} {v : Value} {es : Array MapEntry} {c : Nat} (h : PTyR w vb lo hi t v) (k : Kq (· = mb) w w') (hm : w.heap[mb]? = some (.map es c)) : PTyR w' vb lo hi t v := h.keep (fun q cs e f _ hq => (k.block _ (lt_of_block hq) (fun z => by rw [show q = mb from z, hm] at hq; cases hq)).trans hq)
def SMt (names own : List ByteArray) (a : Ty) : Prop := ∀ (w : World) (mb : Nat) (vg vs : List Nat) (kv : List (ByteArray × ByteArray)) (gs : List (Option Ty)) (lo hi lo2 hi2 : Nat) (u : Ty) (v x : Value), MW w mb names own vg vs kv gs → PTyR w vg lo hi a v → PTyR w vs lo2 hi2 u x → sz u ≤ 120 →
  Calls Tryz.prog 41 #[.map (some mb), v, x] w fun e w' => ∃ kv', e = .returned (.bool (matM a u gs).2) ∧ SM w' mb kv' ∧ ((matM a u gs).2 = true → MG names own kv' (matM a u gs).1) ∧ Kq (· = mb) w w'
set_option maxRecDepth 20000 in
set_option maxHeartbeats 1000000 in
theorem mt_var (names own : List ByteArray) (hC : MC names own) (n : Nat) : SMt names own (.mk { data := #[] } n []) := by
  intro w mb vg vs kv gs lo hi lo2 hi2 u v x h hv hx hsz
  cases hv with
  | base _ _ _ _ hk => rcases hk with e | e <;> cases e
  | var _ b _ _ _ hb =>
    have hnl : n < vg.length := (List.getElem?_eq_some_iff.1 hb).1
    have hnn : n < names.length := h.ng.1 ▸ hnl
    have hmem : names.getD n { data := #[] } ∈ names := by simp [List.getD, hnn]
    have hblk := h.ng.2 n hnn
    have eb : vg.getD n 0 = b := by simp [List.getD, hb]
    rw [eb] at hblk
    have hc1 : w.cell? ⟨b, 1, none⟩ = some (.string (names.getD n { data := #[] })) := by simp [World.cell?, hblk]
    have HS : Hid (Calls Tryz.prog 36 #[x, .func (.func 66) #[] #[]] w.drew fun e w' => e = .returned (.string (shT own u)) ∧ Kept w.drew w') := showo_any w.drew vs lo2 hi2 own u x (hx.keep (PKeep.kept (Kept.refl w).drw)) (by omega) ⟨h.ns.1, h.ns.2⟩ h.nd hC.os
    have HB : Hid (∀ w1, Kept w.drew w1 → Calls Tryz.prog 65 #[.map (some mb), .string (names.getD n { data := #[] }), .string (shT own u)] w1 fun e w' => ∃ kv', e = .returned (.bool (matM (.mk { data := #[] } n []) u gs).2) ∧ SM w' mb kv' ∧ ((matM (.mk { data := #[] } n []) u gs).2 = true → MG names own kv' (matM (.mk { data := #[] } n []) u gs).1) ∧ Kq (· = mb) w w') := fun w1 hk => by
      refine (bind_any w1 mb kv names own gs n u ⟨hk.blk h.sm.mp, h.sm.nd⟩ h.mg hC.nn hnn (hC.sh _ hmem) hC.ow (by rw [← h.ns.1]; exact hx.wt)).mono ?_
      rintro e w' ⟨kv', h1, h2, h3, h4⟩
      exact ⟨kv', h1, h2, h3, (Kq.of_kept ((Kept.refl w).drw.trans hk)).trans (Kq.of_kp h4 (fun _ z => z))⟩
    have HC1 : Hid (∀ w1, Kept w.drew w1 → w1.cell? ⟨b, 1, none⟩ = some (.string (names.getD n { data := #[] }))) := fun w1 hk => hk.cell (a := ⟨b, 1, none⟩) hc1
    obtain ⟨T, z, rfl⟩ := hx.iface
    have t1 := Tryz.taVV (.pointer (some ⟨b, 0, none⟩)) w
    clear h hx hC hblk hb hmem hnn hnl eb
    generalize names.getD n { data := #[] } = nm at *
    go_enter Tryz.func41, Tryz.ntmps41
    go_wp2_with fail
    go_region_with (first | (go_at_call 36; refine Calls.mono HS.out ?_; rintro e w1 ⟨rfl, hk1⟩; have hcw := HC1.out w1 hk1) | (go_at_call 65; refine Calls.mono (HB.out w1 hk1) ?_; rintro e w2 ⟨kv', rfl, h1, h2, h3⟩; have H1 : Hid _ := h1; have H2 : Hid _ := h2; clear h1 h2))
    all_goals
      go_wp2
      go_ret
      exact ⟨kv', rfl, H1.out, H2.out, h3⟩
end Go.Proofs.YtleenphlgbklmabGreatDoor

namespace Go.Proofs.YtleenphlgbklmabGreatDoor
open Go.RowKit

theorem Tryz.taBL (v : Value) (w : World) : (Instr.typeAssert (.iface 271 v) 77 149 true).run Tryz.prog w = .ok (.tuple #[.pointer none, .bool false]) w := by kernel_rfl
theorem Tryz.taBP (v : Value) (w : World) : (Instr.typeAssert (.iface 271 v) 77 153 true).run Tryz.prog w = .ok (.tuple #[.pointer none, .bool false]) w := by kernel_rfl
theorem Tryz.taBV (v : Value) (w : World) : (Instr.typeAssert (.iface 271 v) 77 124 true).run Tryz.prog w = .ok (.tuple #[.pointer none, .bool false]) w := by kernel_rfl
theorem matM_other (k k' : ByteArray) (n n' : Nat) (l l' : List Ty) (gs : List (Option Ty)) (h0 : (k.data.toList == []) = false) (h : (k.data.toList == k'.data.toList) = false) : matM (.mk k n l) (.mk k' n' l') gs = (gs, false) := by
  simp only [matM, h0, h, Bool.false_eq_true, if_false]
theorem matM_list (a c : Ty) (gs : List (Option Ty)) : (matM (.mk { data := #[108, 105, 115, 116] } 0 [a]) (.mk { data := #[108, 105, 115, 116] } 0 [c]) gs).2 = (matM a c gs).2 ∧ ((matM a c gs).2 = true → (matM (.mk { data := #[108, 105, 115, 116] } 0 [a]) (.mk { data := #[108, 105, 115, 116] } 0 [c]) gs).1 = (matM a c gs).1) := by
  have e : matM (.mk { data := #[108, 105, 115, 116] } 0 [a]) (.mk { data := #[108, 105, 115, 116] } 0 [c]) gs = if (matM a c gs).2 then ((matM a c gs).1, true) else (gs, false) := by
    rw [matM]
    simp [matMs]
  rw [e]
  cases (matM a c gs).2 <;> simp
theorem matM_two (k : ByteArray) (h0 : (k.data.toList == []) = false) (a b c d : Ty) (gs : List (Option Ty)) : matM (.mk k 0 [a, b]) (.mk k 0 [c, d]) gs = if (matM a c gs).2 then (if (matM b d (matM a c gs).1).2 then ((matM b d (matM a c gs).1).1, true) else ((matM a c gs).1, false)) else (gs, false) := by
  rw [matM]
  simp only [h0, Bool.false_eq_true, if_false, beq_self_eq_true, if_true, matMs]
set_option maxRecDepth 20000 in
set_option maxHeartbeats 1000000 in
theorem mt_list_no (w : World) (mb b : Nat) (x : Value) (hx : ∃ T z, x = .iface T z) (hta : (Instr.typeAssert x 77 149 true).run Tryz.prog w = .ok (.tuple #[.pointer none, .bool false]) w) :
    Calls Tryz.prog 41 #[.map (some mb), .iface 149 (.pointer (some ⟨b, 0, none⟩)), x] w fun e w' => e = .returned (.bool false) ∧ Kept w w' := by
  obtain ⟨T, z, rfl⟩ := hx
  have t1 := Tryz.taLV (.pointer (some ⟨b, 0, none⟩)) w
  have t2 := Tryz.taLL (.pointer (some ⟨b, 0, none⟩)) w
  go_enter Tryz.func41, Tryz.ntmps41
  go_wp2_with fail
  go_region
  all_goals
    go_wp2
    go_ret
    exact ⟨rfl, (Kept.refl w).drw⟩
set_option maxRecDepth 20000 in
set_option maxHeartbeats 1000000 in
theorem mt_list_yes (w : World) (mb b c : Nat) (p q : Value) (R : Bool → World → Prop) (hp : ∃ T z, p = .iface T z) (hq : ∃ T z, q = .iface T z) (hb : w.cell? ⟨b, 1, none⟩ = some p) (hc : w.cell? ⟨c, 1, none⟩ = some q)
    (HM : Hid (Calls Tryz.prog 41 #[.map (some mb), p, q] w.drew fun e w' => ∃ r, e = .returned (.bool r) ∧ Hid (R r w') ∧ w'.cell? ⟨b, 1, none⟩ = some p ∧ w'.cell? ⟨c, 1, none⟩ = some q)) :
    Calls Tryz.prog 41 #[.map (some mb), .iface 149 (.pointer (some ⟨b, 0, none⟩)), .iface 149 (.pointer (some ⟨c, 0, none⟩))] w fun e w' => ∃ r, e = .returned (.bool r) ∧ Hid (R r w') := by
  obtain ⟨T, z, rfl⟩ := hp
  obtain ⟨T2, z2, rfl⟩ := hq
  have t1 := Tryz.taLV (.pointer (some ⟨b, 0, none⟩)) w
  have t2 := Tryz.taLL (.pointer (some ⟨b, 0, none⟩)) w
  have t3 := Tryz.taLL (.pointer (some ⟨c, 0, none⟩)) w
  go_enter Tryz.func41, Tryz.ntmps41
  go_wp2_with fail
  go_region_held3 (fun w' => w'.cell? ⟨b, 1, none⟩ = some (.iface T z) ∧ w'.cell? ⟨c, 1, none⟩ = some (.iface T2 z2)) (go_keep) (first | (go_at_call 41; refine Calls.mono HM.out ?_; rintro e w1 ⟨r, rfl, hR, j1, j2⟩))
  all_goals
    go_wp2
    go_ret
    exact ⟨r, rfl, hR⟩
theorem mt_list (names own : List ByteArray) (a : Ty) (ih : SMt names own a) : SMt names own (.mk { data := #[108, 105, 115, 116] } 0 [a]) := by
  intro w mb vg vs kv gs lo hi lo2 hi2 u v x h hv hx hsz
  have hno : ∀ (k' : ByteArray) (n' : Nat) (l' : List Ty), u = .mk k' n' l' → (({ data := #[108, 105, 115, 116] } : ByteArray).data.toList == k'.data.toList) = false → (Instr.typeAssert x 77 149 true).run Tryz.prog w = .ok (.tuple #[.pointer none, .bool false]) w → Calls Tryz.prog 41 #[.map (some mb), v, x] w fun e w' => ∃ kv', e = .returned (.bool (matM (.mk { data := #[108, 105, 115, 116] } 0 [a]) u gs).2) ∧ SM w' mb kv' ∧ ((matM (.mk { data := #[108, 105, 115, 116] } 0 [a]) u gs).2 = true → MG names own kv' (matM (.mk { data := #[108, 105, 115, 116] } 0 [a]) u gs).1) ∧ Kq (· = mb) w w' := by
    rintro k' n' l' rfl hk hta
    rw [matM_other _ _ _ _ _ _ _ (by decide) hk]
    cases hv with
    | list _ b p _ m _ hb ha h1 h2 =>
      refine (mt_list_no w mb b x hx.iface hta).mono ?_
      rintro e w' ⟨rfl, hk⟩
      exact ⟨kv, rfl, ⟨hk.blk h.sm.mp, h.sm.nd⟩, fun z => by simp at z, Kq.of_kept hk⟩
  cases hx with
  | var n c _ _ _ hc => exact hno _ _ _ rfl (by decide) (Tryz.taVL _ w)
  | base kd _ _ _ hk => exact hno _ _ _ rfl (by rcases hk with rfl | rfl <;> decide) (Tryz.taBL _ w)
  | pair _ _ c _ _ _ _ _ _ hc _ _ _ _ => exact hno _ _ _ rfl (by decide) (Tryz.taPL _ w)
  | fn _ _ c _ _ _ _ _ _ hc _ _ _ _ => exact hno _ _ _ rfl (by decide) (Tryz.taAL _ w)
  | list y c q _ m2 _ hc hy h3 h4 =>
    cases hv with
    | list _ b p _ m _ hb ha h1 h2 =>
      have hsy : sz y ≤ 120 := by simp only [sz, szs] at hsz; omega
      have hmp := h.sm.mp
      have hM := matM_list a y gs
      have HM : Hid (Calls Tryz.prog 41 #[.map (some mb), p, q] w.drew fun e w' => ∃ r, e = .returned (.bool r) ∧ Hid (∃ kv', r = (matM (.mk { data := #[108, 105, 115, 116] } 0 [a]) (.mk { data := #[108, 105, 115, 116] } 0 [y]) gs).2 ∧ SM w' mb kv' ∧ ((matM (.mk { data := #[108, 105, 115, 116] } 0 [a]) (.mk { data := #[108, 105, 115, 116] } 0 [y]) gs).2 = true → MG names own kv' (matM (.mk { data := #[108, 105, 115, 116] } 0 [a]) (.mk { data := #[108, 105, 115, 116] } 0 [y]) gs).1) ∧ Kq (· = mb) w w') ∧ w'.cell? ⟨b, 1, none⟩ = some p ∧ w'.cell? ⟨c, 1, none⟩ = some q) := by
        have hkd : Kept w w.drew := (Kept.refl w).drw
        refine (ih w.drew mb vg vs kv gs _ _ _ _ y p q ⟨⟨h.ng.1, h.ng.2⟩, ⟨h.ns.1, h.ns.2⟩, h.nd, ⟨h.sm.mp, h.sm.nd⟩, h.mg⟩ (ha.keep (PKeep.kept hkd)) (hy.keep (PKeep.kept hkd)) hsy).mono ?_
        rintro e w' ⟨kv', rfl, g1, g2, g3⟩
        have hb' := (g3.block b (lt_of_block hb) (fun z => by rw [show b = mb from z, hmp] at hb; cases hb)).trans hb
        have hc' := (g3.block c (lt_of_block hc) (fun z => by rw [show c = mb from z, hmp] at hc; cases hc)).trans hc
        refine ⟨_, rfl, ⟨kv', by rw [hM.1], g1, fun z => ?_, (Kq.of_kept hkd).trans g3⟩, by simp [World.cell?, hb'], by simp [World.cell?, hc']⟩
        rw [hM.1] at z
        rw [hM.2 z]
        exact g2 z
      refine (mt_list_yes w mb b c p q _ ha.iface hy.iface (by simp [World.cell?, hb]) (by simp [World.cell?, hc]) HM).mono ?_
      rintro e w' ⟨r, rfl, hR⟩
      obtain ⟨kv', e1, g1, g2, g3⟩ := hR.out
      exact ⟨kv', by rw [e1], g1, g2, g3⟩
end Go.Proofs.YtleenphlgbklmabGreatDoor
