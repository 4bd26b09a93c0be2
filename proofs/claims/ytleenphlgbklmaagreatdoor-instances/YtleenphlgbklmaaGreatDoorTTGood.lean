import Derived.Test.YtleenphlgbklmaaGreatDoorTRefGood
import Derived.Test.YtleenphlgbklmaaGreatDoorTWTake
import Derived.Deep.DeepCutAuto
import Derived.Deep.LoopGhost
import Derived.Test.YtleenphlgbklmaaGreatDoorTWFun
set_option linter.unusedVariables false
set_option linter.unusedSimpArgs false
namespace Go.Proofs.YtleenphlgbklmaaGreatDoor
open Go.RowKit

theorem sum_take (names : List ByteArray) (q : Nat) : ((names.take q).map fun s => s.size + 16).sum ≤ (names.map fun s => s.size + 16).sum := by
  induction names generalizing q with
  | nil => simp
  | cons n ns ih =>
    cases q with
    | zero => simp
    | succ q => simp only [List.take_succ_cons, List.map_cons, List.sum_cons]; have := ih q; omega
theorem sum_take_succ (names : List ByteArray) (q : Nat) (h : q < names.length) : ((names.take (q + 1)).map fun s => s.size + 16).sum = ((names.take q).map fun s => s.size + 16).sum + ((names.getD q { data := #[] }).size + 16) := by
  rw [List.take_succ_eq_append_getElem h, List.map_append, List.sum_append, List.map_cons, List.map_nil, List.sum_cons, List.sum_nil]
  simp only [List.getD, List.getElem?_eq_getElem h, Option.getD_some, Nat.add_zero]
theorem tws_take (xs : List X) (q : Nat) : tws (xs.take q) ≤ tws xs := by
  induction xs generalizing q with
  | nil => simp
  | cons n ns ih =>
    cases q with
    | zero => simp [tws]
    | succ q => simp only [List.take_succ_cons, tws]; have := ih q; omega
theorem tws_append (xs : List X) (y : X) : tws (xs ++ [y]) = tws xs + (tw y + 16) := by
  induction xs with
  | nil => simp [tws]
  | cons x xs ih => simp only [List.cons_append, tws, ih]; omega
theorem tws_take_succ (xs : List X) (q : Nat) (h : q < xs.length) : tws (xs.take (q + 1)) = tws (xs.take q) + (tw (xs.getD q X.none) + 16) := by
  rw [List.take_succ_eq_append_getElem h, tws_append]
  simp [List.getD, h]
theorem getD_mem {xs : List X} {q : Nat} (h : q < xs.length) : xs.getD q X.none ∈ xs := by simp [List.getD, h]

theorem letT_size (s0 : ByteArray) (names : List ByteArray) (kids : List X) (ih : ∀ y, y ∈ kids → (txt y).size ≤ tw y) (q : Nat) (h1 : q ≤ names.length) (h2 : q ≤ kids.length) :
    (letT s0 names (txts kids) q).size ≤ s0.size + ((names.take q).map fun s => s.size + 16).sum + tws (kids.take q) := by
  induction q with
  | zero => simp [letT]
  | succ q ihq =>
    have i1 := ihq (by omega) (by omega)
    rw [letT, sum_take_succ names q (by omega), tws_take_succ kids q (by omega), txts_get kids q (by omega)]
    have i2 := ih _ (getD_mem (xs := kids) (q := q) (by omega))
    have a1 : ({ data := #[32, 97, 110, 100, 32] } : ByteArray).size = 5 := rfl
    have a2 : ({ data := #[32, 61, 32] } : ByteArray).size = 3 := rfl
    split
    · simp only [ByteArray.size_append, a1, a2]; omega
    · simp only [ByteArray.size_append, a2]; omega
theorem brk_size (b : Bool) (s : ByteArray) : (brk b s).size ≤ s.size + 2 := by
  unfold brk
  have a1 : ({ data := #[40] } : ByteArray).size = 1 := rfl
  have a2 : ({ data := #[41] } : ByteArray).size = 1 := rfl
  split
  · simp only [ByteArray.size_append, a1, a2]; omega
  · omega

theorem txt_size (x : X) : WF x → (txt x).size ≤ tw x := by
  induction x using X.ind with
  | h op names kids loc ih =>
    intro h
    cases h with
    | leaf _ n _ h =>
      rcases h with rfl | rfl <;> simp [txt, txts, tw, tws] <;> omega
    | fn n a _ ha =>
      have := ih a (by simp) ha
      simp [txt, txts, tw, tws]
      have a1 : ({ data := #[102, 117, 110, 32] } : ByteArray).size = 4 := rfl
      have a2 : ({ data := #[32, 45, 62, 32] } : ByteArray).size = 4 := rfl
      omega
    | pair a b _ ha hb =>
      have h1 := ih a (by simp) ha
      have h2 := ih b (by simp) hb
      simp [txt, txts, tw, tws]
      have a1 : ({ data := #[40] } : ByteArray).size = 1 := rfl
      have a2 : ({ data := #[44, 32] } : ByteArray).size = 2 := rfl
      have a3 : ({ data := #[41] } : ByteArray).size = 1 := rfl
      omega
    | ite a b c _ ha hb hc =>
      have h1 := ih a (by simp) ha
      have h2 := ih b (by simp) hb
      have h3 := ih c (by simp) hc
      simp [txt, txts, tw, tws]
      have a1 : ({ data := #[105, 102, 32] } : ByteArray).size = 3 := rfl
      have a2 : ({ data := #[32, 116, 104, 101, 110, 32] } : ByteArray).size = 6 := rfl
      have a3 : ({ data := #[32, 101, 108, 115, 101, 32] } : ByteArray).size = 6 := rfl
      omega
    | app a b _ ha hb =>
      have h1 := ih a (by simp) ha
      have h2 := ih b (by simp) hb
      have b1 := brk_size (needsF a.op) (txt a)
      have b2 := brk_size (needsA b.op) (txt b)
      simp [txt, txts, tw, tws]
      have a1 : ({ data := #[32] } : ByteArray).size = 1 := rfl
      omega
    | lt _ _ _ _ h hl h1 hk =>
      have i1 : ∀ y, y ∈ kids → (txt y).size ≤ tw y := fun y hy => ih y hy (hk y hy)
      have i2 := i1 _ (getD_mem (xs := kids) (q := names.length) (by omega))
      have e2 := txts_get kids names.length (by omega)
      have e3 := tws_take_succ kids names.length (by omega)
      have e4 := tws_take kids (names.length + 1)
      have e5 := sum_take names names.length
      have a1 : ({ data := #[32, 105, 110, 32] } : ByteArray).size = 4 := rfl
      have a2 : ({ data := #[108, 101, 116, 32] } : ByteArray).size = 4 := rfl
      have a3 : ({ data := #[114, 101, 99, 32] } : ByteArray).size = 4 := rfl
      rcases h with rfl | rfl
      · have l1 := letT_size { data := #[108, 101, 116, 32] } names kids i1 names.length (by omega) (by omega)
        simp only [txt, tw, if_true, show ¬ (({ data := #[108, 101, 116] } : ByteArray) = { data := #[102, 117, 110] }) from by decide, show ¬ (({ data := #[108, 101, 116] } : ByteArray) = { data := #[112, 97, 105, 114] }) from by decide, show ¬ (({ data := #[108, 101, 116] } : ByteArray) = { data := #[105, 102] }) from by decide, show ¬ (({ data := #[108, 101, 116] } : ByteArray) = { data := #[97, 112, 112] }) from by decide, if_false, e2, ByteArray.size_append, a1]
        omega
      · have l1 := letT_size ({ data := #[108, 101, 116, 32] } ++ { data := #[114, 101, 99, 32] }) names kids i1 names.length (by omega) (by omega)
        simp only [ByteArray.size_append, a2, a3] at l1
        simp only [txt, tw, if_true, show ¬ (({ data := #[114, 101, 99] } : ByteArray) = { data := #[102, 117, 110] }) from by decide, show ¬ (({ data := #[114, 101, 99] } : ByteArray) = { data := #[112, 97, 105, 114] }) from by decide, show ¬ (({ data := #[114, 101, 99] } : ByteArray) = { data := #[105, 102] }) from by decide, show ¬ (({ data := #[114, 101, 99] } : ByteArray) = { data := #[97, 112, 112] }) from by decide, show ¬ (({ data := #[114, 101, 99] } : ByteArray) = { data := #[108, 101, 116] }) from by decide, if_false, e2, ByteArray.size_append, a1]
        omega
end Go.Proofs.YtleenphlgbklmaaGreatDoor

namespace Go.Proofs.YtleenphlgbklmaaGreatDoor
open Go.RowKit

section
variable {w w' w'' : World} {rb tb c : Nat} {l : List Tk} {k k' k'' : Nat} {bad bad' bad'' : Int} {nb B : Nat} {names names' names'' : List ByteArray}
theorem TEnd.take (h : TEnd w w' rb tb c l k bad nb B names) (hr : rb < B) (g : Kp (· = rb) w' w'') (r : Rd w'' rb tb c l k' bad') (hk : k' < l.length) : TEnd w w'' rb tb c l k' bad' nb B names :=
  ⟨h.kp.trans (g.mono fun q _ e => Or.inl e), h.tk.trans (TKeep.rd h.rd g), r, hk, h.nm.kp g hr⟩
theorem TEnd.start (h : Rd w rb tb c l k bad) (hk : k < l.length) (hn : Nm w nb B names) : TEnd w w rb tb c l k bad nb B names := ⟨Kp.refl _ _, TKeep.refl _, h, hk, hn⟩
theorem TEnd.trans (h : TEnd w w' rb tb c l k bad nb B names) (g : TEnd w' w'' rb tb c l k' bad' nb B names') : TEnd w w'' rb tb c l k' bad' nb B names' :=
  ⟨h.kp.trans g.kp, h.tk.trans g.tk, g.rd, g.kl, g.nm⟩
theorem TEnd.alloc (h : TEnd w w' rb tb c l k bad nb B names) (o : Obj) : TEnd w (w'.alloc o) rb tb c l k bad nb B names :=
  ⟨h.kp.alloc o, h.tk.trans (TKeep.alloc _ _), h.rd.alloc o, h.kl, h.nm.alloc o⟩
theorem TEnd.drew (h : TEnd w w' rb tb c l k bad nb B names) : TEnd w w'.drew rb tb c l k bad nb B names :=
  ⟨h.kp.drew, h.tk.trans (TKeep.drew _), h.rd.drew, h.kl, h.nm.drew⟩
end

set_option maxRecDepth 20000 in
set_option maxHeartbeats 2000000 in
theorem arr_step (l : List Tk) (hl : l.length ≤ 1000) (hG : Good l) (n : Nat) (hA : SArr l n) (hO : SOne l n) : SArr l (n + 1) := by
  intro w rb tb c k bad nb B names t names' k' bad' h hk hn hr ht hok hM
  simp only [arrowM] at hM
  obtain ⟨⟨x, n1, k1, b1⟩, h1, h2⟩ := Option.bind_eq_some_iff.1 hM
  obtain ⟨hk1, hok1⟩ := (tread_ok l hG n).2 _ _ _ _ _ _ _ h1 hk hok
  have H1 : Hid _ := h1
  have H2 : Hid _ := h2
  clear hM h1 h2
  go_enter Tryz.func45, Tryz.ntmps45
  go_wp2_with fail
  refine (hO w rb tb c k bad nb B names x n1 k1 b1 h hk hn hr ht hok H1.out).mono ?_
  rintro e w1 ⟨p, rfl, hx, E1⟩
  obtain ⟨pb, rfl⟩ := hx.ptr
  clear h hn
  go_wp2_with fail
  refine (take_any w1 rb tb c l k1 b1 _ E1.rd E1.kl hl).mono ?_
  rintro e w2 ⟨rfl, g2, r2⟩
  have hx2 := TRep.keep (TKeep.rd E1.rd g2) x hx
  by_cases hMa : isM l { data := #[45, 62] } k1 b1 = true
  · rw [takeK, if_pos hMa] at r2
    have hk2 := isM_lt hG hk1 hMa (by decide) (by decide)
    have E2 := E1.take hr g2 r2 hk2
    have q := H2.out
    simp only [hMa, if_true] at q
    obtain ⟨⟨y, n2, k3, b3⟩, h3, h4⟩ := Option.bind_eq_some_iff.1 q
    simp only [Option.some.injEq, Prod.mk.injEq] at h4
    obtain ⟨rfl, rfl, rfl, rfl⟩ := h4
    have H3 : Hid _ := h3
    rw [hMa]
    clear q h3 hMa H2 E1 g2 r2 hx
    go_wp2_with fail
    refine (hA w2 rb tb c (k1 + 1) b1 nb B n1 y n2 k3 b3 E2.rd E2.kl E2.nm hr ht hok1 H3.out).mono ?_
    rintro e w3 ⟨p2, rfl, hy, E3⟩
    obtain ⟨pb2, rfl⟩ := hy.ptr
    have hx3 := TRep.keep E3.tk x hx2
    go_wp2
    go_ret
    exact ⟨_, rfl, tnode2 { data := #[102, 117, 110] } hx3 hy, ((E2.trans E3).alloc _).alloc _⟩
  · have hMf : isM l { data := #[45, 62] } k1 b1 = false := by simpa using hMa
    rw [takeK, if_neg hMa] at r2
    have E2 := E1.take hr g2 r2 hk1
    have q := H2.out
    simp only [hMf, Bool.false_eq_true, if_false, Option.some.injEq, Prod.mk.injEq] at q
    obtain ⟨rfl, rfl, rfl, rfl⟩ := q
    rw [hMf]
    clear hMa hMf H2 E1 g2 r2 hx
    go_wp2_with fail
    go_ret
    exact ⟨_, rfl, hx2, E2⟩
end Go.Proofs.YtleenphlgbklmaaGreatDoor

namespace Go.Proofs.YtleenphlgbklmaaGreatDoor
open Go.RowKit

set_option maxRecDepth 20000 in
set_option maxHeartbeats 4000000 in
theorem one_int (l : List Tk) (hl : l.length ≤ 1000) (hG : Good l) (n : Nat) (hA : SArr l n) (w : World) (rb tb c k : Nat) (bad : Int) (nb B : Nat) (names : List ByteArray) (t : Ty) (names' : List ByteArray) (k' : Nat) (bad' : Int) (h : Rd w rb tb c l k bad) (hk : k < l.length) (hn : Nm w nb B names) (hr : rb < B) (ht : tb < B) (hok : NmOk l names) (h0 : isM l { data := #[105, 110, 116] } k bad = true) (hM : oneM l (n + 1) names k bad = some (t, names', k', bad')) :
    Calls Tryz.prog 83 #[.pointer (some ⟨rb, 0, none⟩), .pointer (some ⟨nb, 0, none⟩)] w fun e w' => ∃ p, e = .returned p ∧ TRep w' t p ∧ TEnd w w' rb tb c l k' bad' nb B names' := by
  have E0 := TEnd.start h hk hn
  simp only [oneM, h0, Bool.false_eq_true, if_false, if_true] at hM
  have HM : Hid _ := hM
  clear hM
  go_enter Tryz.func83, Tryz.ntmps83
  go_wp2_with fail
  refine (take_any _ rb tb c l k bad _ E0.rd E0.kl hl).mono ?_
  rintro e w1 ⟨rfl, g, r⟩
  have hk1 := isM_lt hG hk h0 (by decide) (by decide)
  rw [takeK, if_pos h0] at r
  rw [h0]
  have E := E0.take hr g r hk1
  clear g r E0 h0
  go_wp2
  go_ret
  have q := HM.out
  simp only [Option.some.injEq, Prod.mk.injEq] at q
  obtain ⟨rfl, rfl, rfl, rfl⟩ := q
  exact ⟨_, rfl, tleaf _ { data := #[105, 110, 116] } 0, E.alloc _⟩

set_option maxRecDepth 20000 in
set_option maxHeartbeats 4000000 in
theorem one_bool (l : List Tk) (hl : l.length ≤ 1000) (hG : Good l) (n : Nat) (hA : SArr l n) (w : World) (rb tb c k : Nat) (bad : Int) (nb B : Nat) (names : List ByteArray) (t : Ty) (names' : List ByteArray) (k' : Nat) (bad' : Int) (h : Rd w rb tb c l k bad) (hk : k < l.length) (hn : Nm w nb B names) (hr : rb < B) (ht : tb < B) (hok : NmOk l names) (h0 : isM l { data := #[105, 110, 116] } k bad = false) (h1 : isM l { data := #[98, 111, 111, 108] } k bad = true) (hM : oneM l (n + 1) names k bad = some (t, names', k', bad')) :
    Calls Tryz.prog 83 #[.pointer (some ⟨rb, 0, none⟩), .pointer (some ⟨nb, 0, none⟩)] w fun e w' => ∃ p, e = .returned p ∧ TRep w' t p ∧ TEnd w w' rb tb c l k' bad' nb B names' := by
  have E0 := TEnd.start h hk hn
  simp only [oneM, h0, h1, Bool.false_eq_true, if_false, if_true] at hM
  have HM : Hid _ := hM
  clear hM
  go_enter Tryz.func83, Tryz.ntmps83
  go_wp2_with fail
  refine (take_any _ rb tb c l k bad _ E0.rd E0.kl hl).mono ?_
  rintro e w1 ⟨rfl, g, r⟩
  rw [takeK, if_neg (by rw [h0]; decide)] at r
  rw [h0]
  have E1 := E0.take hr g r hk
  clear g r E0 h0
  go_wp2_with fail
  refine (take_any _ rb tb c l k bad _ E1.rd E1.kl hl).mono ?_
  rintro e w2 ⟨rfl, g, r⟩
  have hk1 := isM_lt hG hk h1 (by decide) (by decide)
  rw [takeK, if_pos h1] at r
  rw [h1]
  have E := E1.take hr g r hk1
  clear g r E1 h1
  go_wp2
  go_ret
  have q := HM.out
  simp only [Option.some.injEq, Prod.mk.injEq] at q
  obtain ⟨rfl, rfl, rfl, rfl⟩ := q
  exact ⟨_, rfl, tleaf _ { data := #[98, 111, 111, 108] } 0, E.alloc _⟩

set_option maxRecDepth 20000 in
set_option maxHeartbeats 4000000 in
theorem one_list (l : List Tk) (hl : l.length ≤ 1000) (hG : Good l) (n : Nat) (hA : SArr l n) (w : World) (rb tb c k : Nat) (bad : Int) (nb B : Nat) (names : List ByteArray) (t : Ty) (names' : List ByteArray) (k' : Nat) (bad' : Int) (h : Rd w rb tb c l k bad) (hk : k < l.length) (hn : Nm w nb B names) (hr : rb < B) (ht : tb < B) (hok : NmOk l names) (h0 : isM l { data := #[105, 110, 116] } k bad = false) (h1 : isM l { data := #[98, 111, 111, 108] } k bad = false) (h2 : isM l { data := #[91] } k bad = true) (hM : oneM l (n + 1) names k bad = some (t, names', k', bad')) :
    Calls Tryz.prog 83 #[.pointer (some ⟨rb, 0, none⟩), .pointer (some ⟨nb, 0, none⟩)] w fun e w' => ∃ p, e = .returned p ∧ TRep w' t p ∧ TEnd w w' rb tb c l k' bad' nb B names' := by
  have E0 := TEnd.start h hk hn
  simp only [oneM, h0, h1, h2, Bool.false_eq_true, if_false, if_true] at hM
  have HM : Hid _ := hM
  clear hM
  go_enter Tryz.func83, Tryz.ntmps83
  go_wp2_with fail
  refine (take_any _ rb tb c l k bad _ E0.rd E0.kl hl).mono ?_
  rintro e w1 ⟨rfl, g, r⟩
  rw [takeK, if_neg (by rw [h0]; decide)] at r
  rw [h0]
  have E1 := E0.take hr g r hk
  clear g r E0 h0
  go_wp2_with fail
  refine (take_any _ rb tb c l k bad _ E1.rd E1.kl hl).mono ?_
  rintro e w2 ⟨rfl, g, r⟩
  rw [takeK, if_neg (by rw [h1]; decide)] at r
  rw [h1]
  have E2 := E1.take hr g r hk
  clear g r E1 h1
  go_wp2_with fail
  refine (take_any _ rb tb c l k bad _ E2.rd E2.kl hl).mono ?_
  rintro e w3 ⟨rfl, g, r⟩
  have hk1 := isM_lt hG hk h2 (by decide) (by decide)
  rw [takeK, if_pos h2] at r
  rw [h2]
  have E := E2.take hr g r hk1
  clear g r E2 h2
  obtain ⟨⟨x, n1, k1, b1⟩, q1, q2⟩ := Option.bind_eq_some_iff.1 HM.out
  obtain ⟨hk2, hok2⟩ := (tread_ok l hG n).1 _ _ _ _ _ _ _ q1 hk1 hok
  simp only [Option.some.injEq, Prod.mk.injEq] at q2
  obtain ⟨rfl, rfl, rfl, rfl⟩ := q2
  have H1 : Hid _ := q1
  clear q1 HM
  go_wp2_with fail
  refine (hA _ rb tb c (k + 1) bad nb B names x n1 k1 b1 E.rd E.kl E.nm hr ht hok H1.out).mono ?_
  rintro e wa ⟨p, rfl, hx, Ea⟩
  obtain ⟨pb, rfl⟩ := hx.ptr
  have E2 := E.trans Ea
  clear E Ea
  go_wp2_with fail
  refine (need_any _ rb tb c l k1 b1 _ E2.rd E2.kl hl).mono ?_
  rintro e wb ⟨rfl, g, r⟩
  have hx2 := TRep.keep (TKeep.rd E2.rd g) x hx
  have E3 := E2.take hr g r (takeK_lt hG hk2 (by decide) (by decide))
  clear g r E2 hx
  go_wp2
  go_ret
  exact ⟨_, rfl, tnode1 { data := #[108, 105, 115, 116] } hx2, (E3.alloc _).alloc _⟩

set_option maxRecDepth 20000 in
set_option maxHeartbeats 4000000 in
theorem one_br (l : List Tk) (hl : l.length ≤ 1000) (hG : Good l) (n : Nat) (hA : SArr l n) (w : World) (rb tb c k : Nat) (bad : Int) (nb B : Nat) (names : List ByteArray) (t : Ty) (names' : List ByteArray) (k' : Nat) (bad' : Int) (h : Rd w rb tb c l k bad) (hk : k < l.length) (hn : Nm w nb B names) (hr : rb < B) (ht : tb < B) (hok : NmOk l names) (h0 : isM l { data := #[105, 110, 116] } k bad = false) (h1 : isM l { data := #[98, 111, 111, 108] } k bad = false) (h2 : isM l { data := #[91] } k bad = false) (h3 : isM l { data := #[40] } k bad = true) (hM : oneM l (n + 1) names k bad = some (t, names', k', bad')) :
    Calls Tryz.prog 83 #[.pointer (some ⟨rb, 0, none⟩), .pointer (some ⟨nb, 0, none⟩)] w fun e w' => ∃ p, e = .returned p ∧ TRep w' t p ∧ TEnd w w' rb tb c l k' bad' nb B names' := by
  have E0 := TEnd.start h hk hn
  simp only [oneM, h0, h1, h2, h3, Bool.false_eq_true, if_false, if_true] at hM
  have HM : Hid _ := hM
  clear hM
  go_enter Tryz.func83, Tryz.ntmps83
  go_wp2_with fail
  refine (take_any _ rb tb c l k bad _ E0.rd E0.kl hl).mono ?_
  rintro e w1 ⟨rfl, g, r⟩
  rw [takeK, if_neg (by rw [h0]; decide)] at r
  rw [h0]
  have E1 := E0.take hr g r hk
  clear g r E0 h0
  go_wp2_with fail
  refine (take_any _ rb tb c l k bad _ E1.rd E1.kl hl).mono ?_
  rintro e w2 ⟨rfl, g, r⟩
  rw [takeK, if_neg (by rw [h1]; decide)] at r
  rw [h1]
  have E2 := E1.take hr g r hk
  clear g r E1 h1
  go_wp2_with fail
  refine (take_any _ rb tb c l k bad _ E2.rd E2.kl hl).mono ?_
  rintro e w3 ⟨rfl, g, r⟩
  rw [takeK, if_neg (by rw [h2]; decide)] at r
  rw [h2]
  have E3 := E2.take hr g r hk
  clear g r E2 h2
  go_wp2_with fail
  refine (take_any _ rb tb c l k bad _ E3.rd E3.kl hl).mono ?_
  rintro e w4 ⟨rfl, g, r⟩
  have hk1 := isM_lt hG hk h3 (by decide) (by decide)
  rw [takeK, if_pos h3] at r
  rw [h3]
  have E := E3.take hr g r hk1
  clear g r E3 h3
  obtain ⟨⟨x, n1, k1, b1⟩, q1, q2⟩ := Option.bind_eq_some_iff.1 HM.out
  obtain ⟨hk2, hok2⟩ := (tread_ok l hG n).1 _ _ _ _ _ _ _ q1 hk1 hok
  have H1 : Hid _ := q1
  have H2 : Hid _ := q2
  clear q1 q2 HM
  go_wp2_with fail
  refine (hA _ rb tb c (k + 1) bad nb B names x n1 k1 b1 E.rd E.kl E.nm hr ht hok H1.out).mono ?_
  rintro e wa ⟨p, rfl, hx, Ea⟩
  obtain ⟨pb, rfl⟩ := hx.ptr
  have E2 := E.trans Ea
  clear E Ea
  go_wp2_with fail
  refine (take_any _ rb tb c l k1 b1 _ E2.rd E2.kl hl).mono ?_
  rintro e wb ⟨rfl, g, r⟩
  have hx2 := TRep.keep (TKeep.rd E2.rd g) x hx
  by_cases hMa : isM l { data := #[44] } k1 b1 = true
  · rw [takeK, if_pos hMa] at r
    have hk3 := isM_lt hG hk2 hMa (by decide) (by decide)
    have E3 := E2.take hr g r hk3
    have q := H2.out
    simp only [hMa, if_true] at q
    obtain ⟨⟨y, n2, k3, b3⟩, q3, q4⟩ := Option.bind_eq_some_iff.1 q
    obtain ⟨hk4, hok4⟩ := (tread_ok l hG n).1 _ _ _ _ _ _ _ q3 hk3 hok2
    simp only [Option.some.injEq, Prod.mk.injEq] at q4
    obtain ⟨rfl, rfl, rfl, rfl⟩ := q4
    have H3 : Hid _ := q3
    rw [hMa]
    clear q q3 H1 H2 g r E2 hx hMa
    go_wp2_with fail
    refine (hA _ rb tb c (k1 + 1) b1 nb B n1 y n2 k3 b3 E3.rd E3.kl E3.nm hr ht hok2 H3.out).mono ?_
    rintro e wc ⟨p2, rfl, hy, Eb⟩
    obtain ⟨pb2, rfl⟩ := hy.ptr
    have hx3 := TRep.keep Eb.tk x hx2
    have E4 := E3.trans Eb
    have hp := tnode2 { data := #[112, 97, 105, 114] } hx3 hy
    have E5 := (E4.alloc (.cells #[.pointer (some ⟨pb, 0, none⟩), .pointer (some ⟨pb2, 0, none⟩)] 33)).alloc (.cells #[.string { data := #[112, 97, 105, 114] }, .int .i64 0, .slice (some ⟨wc.heap.size, 0, none⟩) 2 2] 104)
    clear E3 Eb E4 hx2 hy hx3
    go_wp2_with fail
    generalize (wc.alloc (.cells #[.pointer (some ⟨pb, 0, none⟩), .pointer (some ⟨pb2, 0, none⟩)] 33)).alloc (.cells #[.string { data := #[112, 97, 105, 114] }, .int .i64 0, .slice (some ⟨wc.heap.size, 0, none⟩) 2 2] 104) = wd at *
    refine (need_any _ rb tb c l k3 b3 _ E5.rd E5.kl hl).mono ?_
    rintro e we ⟨rfl, g, r⟩
    have hx5 := TRep.keep (TKeep.rd E5.rd g) _ hp
    have E6 := E5.take hr g r (takeK_lt hG hk4 (by decide) (by decide))
    go_wp2
    go_ret
    exact ⟨_, rfl, hx5, E6⟩
  · have hMf : isM l { data := #[44] } k1 b1 = false := by simpa using hMa
    rw [takeK, if_neg hMa] at r
    have E3 := E2.take hr g r hk2
    have q := H2.out
    simp only [hMf, Bool.false_eq_true, if_false, Option.some.injEq, Prod.mk.injEq] at q
    obtain ⟨rfl, rfl, rfl, rfl⟩ := q
    rw [hMf]
    clear H1 H2 g r E2 hx hMa hMf
    go_wp2_with fail
    refine (need_any _ rb tb c l k1 b1 _ E3.rd E3.kl hl).mono ?_
    rintro e we ⟨rfl, g, r⟩
    have hx5 := TRep.keep (TKeep.rd E3.rd g) _ hx2
    have E6 := E3.take hr g r (takeK_lt hG hk2 (by decide) (by decide))
    go_wp2
    go_ret
    exact ⟨_, rfl, hx5, E6⟩
end Go.Proofs.YtleenphlgbklmaaGreatDoor

namespace Go.Proofs.YtleenphlgbklmaaGreatDoor
open Go.RowKit

theorem row_form0 {w : World} {B : Nat} {e : TypeId} {z : Nat} {v : Value} {n : Nat} {xs : List Value} (h : w.ownsRow B e z v n xs) : ∃ ao cap, v = .slice ao n cap ∧ (0 < n → ∃ g, ao = some ⟨g, 0, none⟩) := by
  rcases h.2 with ⟨rfl, e⟩ | ⟨g, cap, cur, rfl, hb, _⟩
  · exact ⟨none, 0, by rw [e], fun hi => by omega⟩
  · exact ⟨some ⟨g, 0, none⟩, cap, rfl, fun _ => ⟨g, rfl⟩⟩

set_option maxRecDepth 20000 in
set_option maxHeartbeats 4000000 in
theorem one_name (l : List Tk) (hl : l.length ≤ 1000) (hG : Good l) (n : Nat) (hA : SArr l n) (w : World) (rb tb c k : Nat) (bad : Int) (nb B : Nat) (names : List ByteArray) (t : Ty) (names' : List ByteArray) (k' : Nat) (bad' : Int) (h : Rd w rb tb c l k bad) (hk : k < l.length) (hn : Nm w nb B names) (hr : rb < B) (ht : tb < B) (hok : NmOk l names) (h0 : isM l { data := #[105, 110, 116] } k bad = false) (h1 : isM l { data := #[98, 111, 111, 108] } k bad = false) (h2 : isM l { data := #[91] } k bad = false) (h3 : isM l { data := #[40] } k bad = false) (hM : oneM l (n + 1) names k bad = some (t, names', k', bad')) :
    Calls Tryz.prog 83 #[.pointer (some ⟨rb, 0, none⟩), .pointer (some ⟨nb, 0, none⟩)] w fun e w' => ∃ p, e = .returned p ∧ TRep w' t p ∧ TEnd w w' rb tb c l k' bad' nb B names' := by
  have E0 := TEnd.start h hk hn
  simp only [oneM, h0, h1, h2, h3, Bool.false_eq_true, if_false, if_true] at hM
  have HM : Hid _ := hM
  clear hM
  go_enter Tryz.func83, Tryz.ntmps83
  go_wp2_with fail
  refine (take_any _ rb tb c l k bad _ E0.rd E0.kl hl).mono ?_
  rintro e w1 ⟨rfl, g, r⟩
  rw [takeK, if_neg (by rw [h0]; decide)] at r
  rw [h0]
  have E1 := E0.take hr g r hk
  clear g r E0 h0
  go_wp2_with fail
  refine (take_any _ rb tb c l k bad _ E1.rd E1.kl hl).mono ?_
  rintro e w2 ⟨rfl, g, r⟩
  rw [takeK, if_neg (by rw [h1]; decide)] at r
  rw [h1]
  have E2 := E1.take hr g r hk
  clear g r E1 h1
  go_wp2_with fail
  refine (take_any _ rb tb c l k bad _ E2.rd E2.kl hl).mono ?_
  rintro e w3 ⟨rfl, g, r⟩
  rw [takeK, if_neg (by rw [h2]; decide)] at r
  rw [h2]
  have E3 := E2.take hr g r hk
  clear g r E2 h2
  go_wp2_with fail
  refine (take_any _ rb tb c l k bad _ E3.rd E3.kl hl).mono ?_
  rintro e w4 ⟨rfl, g, r⟩
  rw [takeK, if_neg (by rw [h3]; decide)] at r
  rw [h3]
  have E4 := E3.take hr g r hk
  clear g r E3 h3
  go_wp2_with fail
  refine (need_any _ rb tb c l k bad _ E4.rd E4.kl hl).mono ?_
  rintro e w5 ⟨rfl, g, r⟩
  have E5 := E4.take hr g r (takeK_lt hG hk (by decide) (by decide))
  have hok2 := hok.name hk
  clear g r E4
  have q := HM.out
  simp only [Option.some.injEq, Prod.mk.injEq] at q
  obtain ⟨q1, q2, rfl, rfl⟩ := q
  have hln := hok.len
  obtain ⟨s1, hs1⟩ : ∃ s1, s1 = (tkAt l k).s := ⟨_, rfl⟩
  rw [← hs1] at q1 q2 hok2 ⊢
  have HQ1 : Hid _ := q1
  have HQ2 : Hid _ := q2
  clear HM q1 q2 hs1 h hn
  obtain ⟨nv, hnb, hrow⟩ := E5.nm.ex
  have hlow := E5.nm.low
  obtain ⟨ao, cap, rfl, hao⟩ := row_form0 hrow
  have cn : w5.cell? ⟨nb, 0, none⟩ = some (.slice ao names.length cap) := by simp [World.cell?, hnb]
  have fn : w5.frozen? ⟨nb, 0, none⟩ = false := by simp [World.frozen?, hnb]
  go_wp2_with fail
  go_loop [56] (fun v => ∃ j : Nat, v = .int .i64 j ∧ j ≤ names.length ∧ ∀ i, i < j → sameS (names.getD i { data := #[] }) s1 = false) (fun v => names.length - (intOf v).toNat)
  case atStart => exact ⟨0, rfl, Nat.zero_le _, fun i hi => by omega⟩
  case round =>
    obtain ⟨j, rfl, hj, hno⟩ := hrel
    have HNO : Hid _ := hno
    clear hno
    by_cases hlt : j < names.length
    · obtain ⟨g, rfl⟩ := hao (by omega)
      have cm : w5.cell? ⟨g, j, none⟩ = some (.string (names.getD j { data := #[] })) := by
        have := hrow.cellAt j (by simpa using hlt)
        rw [this]
        simp [List.getD, hlt]
      have hsm : Hid (sameS (names.getD j { data := #[] }) s1 = ((names.getD j { data := #[] }).toList == s1.toList)) := by simp only [Hid, sameS, ByteArray.toList_eq]
      have HD : Hid (names.getD j { data := #[] } = names.getD j { data := #[] }) := rfl
      obtain ⟨m, hm⟩ : ∃ m, m = names.getD j { data := #[] } := ⟨_, rfl⟩
      rw [← hm] at cm hsm
      have HM : Hid _ := hm
      clear hm HD
      cases hmm : (m.toList == s1.toList)
      · have E : Hid (∀ i, i < j + 1 → sameS (names.getD i { data := #[] }) s1 = false) := by
          intro i hi
          by_cases e : i = j
          · subst e; rw [← HM.out, hsm.out, hmm]
          · exact HNO.out i (by omega)
        clear hsm HM HNO
        go_wp2
        go_round
        case rel => exact ⟨j + 1, by go_num, by omega, E.out⟩
        case measure => simp [intOf]; omega
      · have E : Hid (names.findIdx? (fun m => sameS m s1) = some j) := by
          show _ = _
          rw [List.findIdx?_eq_some_iff_getElem]
          refine ⟨hlt, ?_, ?_⟩
          · have h1 := hsm.out
            rw [hmm, HM.out] at h1
            simpa [List.getD, hlt] using h1
          · intro i hi
            have h1 := HNO.out i hi
            have : i < names.length := by omega
            simpa [List.getD, this] using h1
        clear hsm HM HNO
        go_wp2
        go_ret
        have q1 := HQ1.out
        have q2 := HQ2.out
        simp only [nameM, E.out] at q1 q2
        subst q1
        subst q2
        exact ⟨_, rfl, tleaf _ { data := #[] } j, E5.alloc _⟩
    · have hjk : j = names.length := by omega
      subst hjk
      have EN : Hid (names.findIdx? (fun m => sameS m s1) = none) := by
        show _ = _
        rw [List.findIdx?_eq_none_iff]
        intro x hx
        obtain ⟨i, hi, rfl⟩ := List.getElem_of_mem hx
        have h1 := HNO.out i hi
        simpa [List.getD, hi] using h1
      have hsz5 : B ≤ w5.heap.size := by have := lt_of_block hnb; omega
      clear HNO
      obtain ⟨i9, hi9, hz90, hz91, hz92⟩ := info_parts Tryz.info9
      go_wp2_with (at_builtin; refine wpList_append_own2 _ rfl (.tmp 71) (.tmp 73) 34 rfl B 9 i9 (.string { data := #[] }) 1 16 Tryz.underlying34 hi9 hz90 hz91 hz92 rfl (by decide) _ _ _ rfl (hrow.alloc _) ⟨w5.heap.size, 0, none⟩ 1 1 [.string s1] rfl rfl (fun q u hq => by match q, hq with | 0, hq => simp at hq; subst hq; simp [Addr.add]) (fun u hu => by simp at hu; subst hu; rfl) (by unfold maxLen; omega) (by omega) (by simp; omega) (by decide) ?_)
      intro g cap' w6 hown' hgrow hfr
      have hnn := row_ne hrow hnb (by decide)
      have hnl := lt_of_block hnb
      have hx6 : w6.heap[nb]? = w5.heap[nb]? := by rw [hgrow.block nb (by simp; omega) (Ne.symm hnn), Below.heap_alloc _ _ _ hnl]
      have x1 : w6.cell? ⟨nb, 0, none⟩ = some (.slice ao names.length cap) := (World.cell?_of_block (a := ⟨nb, 0, none⟩) hx6).trans cn
      have f1 : w6.frozen? ⟨nb, 0, none⟩ = false := (World.frozen?_of_block (a := ⟨nb, 0, none⟩) hx6).trans fn
      have kk : Kp (fun q => q = nb ∨ (Value.slice ao names.length cap).ownBlock = some q) w5 (w6.setCell ⟨nb, 0, none⟩ (.slice (some ⟨g, 0, none⟩) (names.length + 1) cap')) :=
        ((((Kp.refl _ w5).alloc _).grown hgrow (fun q e _ => Or.inr e)).setCell _ _ (fun _ => Or.inl rfl))
      have hgn : g ≠ nb := by
        rcases hfr with e | e
        · intro q; subst q; exact hnn e.symm
        · omega
      have nm6 : Nm (w6.setCell ⟨nb, 0, none⟩ (.slice (some ⟨g, 0, none⟩) (names.length + 1) cap')) nb B (names ++ [s1]) := by
        refine ⟨⟨.slice (some ⟨g, 0, none⟩) (names.length + 1) cap', ?_, ?_⟩, hlow⟩
        · simp [World.setCell, hx6, hnb, Array.getElem?_modify]
        · have := ownsRow_setCell_other hown' (a := ⟨nb, 0, none⟩) (by simp [Value.ownBlock, hgn]) (.slice (some ⟨g, 0, none⟩) (names.length + 1) cap')
          simpa using this
      have tk6 : TKeep w5 (w6.setCell ⟨nb, 0, none⟩ (.slice (some ⟨g, 0, none⟩) (names.length + 1) cap')) := TKeep.kp kk (fun q hq cs e f hc => by
        rcases hq with rfl | hq
        · rw [hnb] at hc; simp at hc; obtain ⟨_, rfl, _⟩ := hc; decide
        · rcases hrow.2 with ⟨h1, _⟩ | ⟨g0, cap0, cur0, h1, _, h3, _⟩
          · rw [h1] at hq; simp [Value.ownBlock] at hq
          · rw [h1] at hq
            simp only [Value.ownBlock] at hq
            obtain rfl := Option.some.inj hq
            rw [h3] at hc; simp at hc; obtain ⟨_, rfl, _⟩ := hc; decide)
      have E6 : TEnd w (w6.setCell ⟨nb, 0, none⟩ (.slice (some ⟨g, 0, none⟩) (names.length + 1) cap')) rb tb c l (takeK l { data := #[110, 97, 109, 101] } k bad) (needB l { data := #[110, 97, 109, 101] } k bad) nb B (names ++ [s1]) := by
        have kB : Kp (fun q => B ≤ q) w5 (w6.setCell ⟨nb, 0, none⟩ (.slice (some ⟨g, 0, none⟩) (names.length + 1) cap')) := kk.mono (fun q _ e => by
          rcases e with rfl | e
          · exact hlow
          · exact (hrow.lt q e).1)
        exact ⟨E5.kp.trans (kB.mono fun q _ e => Or.inr e), E5.tk.trans tk6, E5.rd.kp kB (by show ¬ B ≤ rb; omega) (by show ¬ B ≤ tb; omega), E5.kl, nm6⟩
      clear kk tk6 hown' hgrow hfr hx6 E5 hrow hnb cn fn
      have hq := nm6.ex
      have y1 : (w6.setCell ⟨nb, 0, none⟩ (.slice (some ⟨g, 0, none⟩) (names.length + 1) cap')).cell? ⟨nb, 0, none⟩ = some (.slice (some ⟨g, 0, none⟩) (names.length + 1) cap') := World.cell?_setCell_same _ _ _ x1
      have hsz7 : (w6.setCell ⟨nb, 0, none⟩ (.slice (some ⟨g, 0, none⟩) (names.length + 1) cap')).heap.size = w6.heap.size := by simp
      clear hq
      go_wp2_with fail
      generalize w6.setCell ⟨nb, 0, none⟩ (.slice (some ⟨g, 0, none⟩) (names.length + 1) cap') = w7 at *
      clear x1 f1
      go_wp2
      go_ret
      have q1 := HQ1.out
      have q2 := HQ2.out
      simp only [nameM, EN.out] at q1 q2
      subst q1
      subst q2
      have L := tleaf w7 { data := #[] } names.length
      rw [hsz7] at L
      exact ⟨_, rfl, L, E6.alloc _⟩
end Go.Proofs.YtleenphlgbklmaaGreatDoor

namespace Go.Proofs.YtleenphlgbklmaaGreatDoor
open Go.RowKit

theorem tref_all (l : List Tk) (hl : l.length ≤ 1000) (hG : Good l) (n : Nat) : SArr l n ∧ SOne l n := by
  induction n with
  | zero =>
    refine ⟨?_, ?_⟩
    · intro w rb tb c k bad nb B names t names' k' bad' h hk hn hr ht hok hM
      simp [arrowM] at hM
    · intro w rb tb c k bad nb B names t names' k' bad' h hk hn hr ht hok hM
      simp [oneM] at hM
  | succ n ih =>
    refine ⟨arr_step l hl hG n ih.1 ih.2, ?_⟩
    intro w rb tb c k bad nb B names t names' k' bad' h hk hn hr ht hok hM
    cases h0 : isM l { data := #[105, 110, 116] } k bad
    · cases h1 : isM l { data := #[98, 111, 111, 108] } k bad
      · cases h2 : isM l { data := #[91] } k bad
        · cases h3 : isM l { data := #[40] } k bad
          · exact one_name l hl hG n ih.1 w rb tb c k bad nb B names t names' k' bad' h hk hn hr ht hok h0 h1 h2 h3 hM
          · exact one_br l hl hG n ih.1 w rb tb c k bad nb B names t names' k' bad' h hk hn hr ht hok h0 h1 h2 h3 hM
        · exact one_list l hl hG n ih.1 w rb tb c k bad nb B names t names' k' bad' h hk hn hr ht hok h0 h1 h2 hM
      · exact one_bool l hl hG n ih.1 w rb tb c k bad nb B names t names' k' bad' h hk hn hr ht hok h0 h1 hM
    · exact one_int l hl hG n ih.1 w rb tb c k bad nb B names t names' k' bad' h hk hn hr ht hok h0 hM

/-- the place goes on; a fault stays. -/
theorem needB_geT {l : List Tk} {s : ByteArray} {k : Nat} {bad : Int} (h : 0 ≤ bad) : needB l s k bad = bad := by
  unfold needB
  rw [if_neg (by simp; omega)]
theorem isM_geT {l : List Tk} {s : ByteArray} {k : Nat} {bad : Int} (h : 0 ≤ bad) : isM l s k bad = false := by
  unfold isM
  have : decide (bad < 0) = false := by simp; omega
  rw [this]; rfl
theorem takeK_geT {l : List Tk} {s : ByteArray} {k : Nat} {bad : Int} : k ≤ takeK l s k bad := by
  unfold takeK; split <;> omega

/-- a fault, or a place further on. -/
theorem tread_on (l : List Tk) : ∀ n, (∀ names k bad t names' k' bad', arrowM l n names k bad = some (t, names', k', bad') → k ≤ k' ∧ (k < k' ∨ 0 ≤ bad')) ∧
    (∀ names k bad t names' k' bad', oneM l n names k bad = some (t, names', k', bad') → k ≤ k' ∧ (k < k' ∨ 0 ≤ bad')) := by
  intro n
  induction n with
  | zero => exact ⟨fun _ _ _ _ _ _ _ h => by simp [arrowM] at h, fun _ _ _ _ _ _ _ h => by simp [oneM] at h⟩
  | succ n ih =>
    refine ⟨?_, ?_⟩
    · intro names k bad t names' k' bad' h
      simp only [arrowM] at h
      obtain ⟨⟨x, n1, k1, b1⟩, h1, h2⟩ := Option.bind_eq_some_iff.1 h
      have g1 := ih.2 _ _ _ _ _ _ _ h1
      simp only at h2
      split at h2
      · obtain ⟨⟨y, n2, k2, b2⟩, h3, h4⟩ := Option.bind_eq_some_iff.1 h2
        have g2 := ih.1 _ _ _ _ _ _ _ h3
        simp only [Option.some.injEq, Prod.mk.injEq] at h4
        obtain ⟨_, _, rfl, rfl⟩ := h4
        exact ⟨by omega, Or.inl (by omega)⟩
      · simp only [Option.some.injEq, Prod.mk.injEq] at h2
        obtain ⟨_, _, rfl, rfl⟩ := h2
        exact g1
    · intro names k bad t names' k' bad' h
      simp only [oneM] at h
      split at h
      · simp only [Option.some.injEq, Prod.mk.injEq] at h
        obtain ⟨_, _, rfl, rfl⟩ := h
        exact ⟨by omega, Or.inl (by omega)⟩
      · split at h
        · simp only [Option.some.injEq, Prod.mk.injEq] at h
          obtain ⟨_, _, rfl, rfl⟩ := h
          exact ⟨by omega, Or.inl (by omega)⟩
        · split at h
          · obtain ⟨⟨x, n1, k1, b1⟩, h1, h2⟩ := Option.bind_eq_some_iff.1 h
            have g1 := ih.1 _ _ _ _ _ _ _ h1
            simp only [Option.some.injEq, Prod.mk.injEq] at h2
            obtain ⟨_, _, rfl, rfl⟩ := h2
            have := takeK_geT (l := l) (s := { data := #[93] }) (k := k1) (bad := b1)
            exact ⟨by omega, Or.inl (by omega)⟩
          · split at h
            · obtain ⟨⟨x, n1, k1, b1⟩, h1, h2⟩ := Option.bind_eq_some_iff.1 h
              have g1 := ih.1 _ _ _ _ _ _ _ h1
              simp only at h2
              split at h2
              · obtain ⟨⟨y, n2, k2, b2⟩, h3, h4⟩ := Option.bind_eq_some_iff.1 h2
                have g2 := ih.1 _ _ _ _ _ _ _ h3
                simp only [Option.some.injEq, Prod.mk.injEq] at h4
                obtain ⟨_, _, rfl, rfl⟩ := h4
                have := takeK_geT (l := l) (s := { data := #[41] }) (k := k2) (bad := b2)
                exact ⟨by omega, Or.inl (by omega)⟩
              · simp only [Option.some.injEq, Prod.mk.injEq] at h2
                obtain ⟨_, _, rfl, rfl⟩ := h2
                have := takeK_geT (l := l) (s := { data := #[41] }) (k := k1) (bad := b1)
                exact ⟨by omega, Or.inl (by omega)⟩
            · simp only [Option.some.injEq, Prod.mk.injEq] at h
              obtain ⟨_, _, rfl, rfl⟩ := h
              refine ⟨takeK_geT, ?_⟩
              by_cases hb : 0 ≤ bad
              · exact Or.inr (by rw [needB_geT hb]; exact hb)
              · by_cases hM : isM l { data := #[110, 97, 109, 101] } k bad = true
                · exact Or.inl (by unfold takeK; rw [if_pos hM]; omega)
                · refine Or.inr ?_
                  unfold needB
                  rw [if_pos (by simp [hM]; omega)]
                  omega

/-- so much fuel is enough. -/
theorem tread_total (l : List Tk) (hG : Good l) : ∀ m, (∀ names k bad n, k < l.length → l.length - k ≤ m → 2 * m + 2 ≤ n → ∃ r, arrowM l n names k bad = some r) ∧
    (∀ names k bad n, k < l.length → l.length - k ≤ m → 2 * m + 1 ≤ n → ∃ r, oneM l n names k bad = some r) := by
  intro m
  induction m with
  | zero => exact ⟨fun _ k _ _ hk h => by omega, fun _ k _ _ hk h => by omega⟩
  | succ m ih =>
    have one : ∀ names k bad n, k < l.length → l.length - k ≤ m + 1 → 2 * (m + 1) + 1 ≤ n → ∃ r, oneM l n names k bad = some r := by
      intro names k bad n hk hm hn
      obtain ⟨n, rfl⟩ : ∃ j, n = j + 1 := ⟨n - 1, by omega⟩
      simp only [oneM]
      split
      · exact ⟨_, rfl⟩
      · split
        · exact ⟨_, rfl⟩
        · split
          · rename_i hM
            have hk1 := isM_lt hG hk hM (by decide) (by decide)
            obtain ⟨r, hr⟩ := ih.1 names (k + 1) bad n hk1 (by omega) (by omega)
            rw [hr]
            exact ⟨_, rfl⟩
          · split
            · rename_i hM
              have hk1 := isM_lt hG hk hM (by decide) (by decide)
              obtain ⟨⟨x, n1, k1, b1⟩, hr⟩ := ih.1 names (k + 1) bad n hk1 (by omega) (by omega)
              rw [hr]
              simp only [Option.bind_some]
              split
              · rename_i hM2
                have hle := ((tread_on l n).1 _ _ _ _ _ _ _ hr).1
                have hkl : k1 < l.length := by
                  rcases Nat.lt_or_ge k1 l.length with h | h
                  · exact h
                  · simp only [isM, Bool.and_eq_true] at hM2
                    have : tkAt l k1 = Tk.no := by simp [tkAt, List.getD_eq_getElem?_getD, List.getElem?_eq_none h]
                    rw [this] at hM2
                    have h2 := hM2.2
                    simp [Tk.no] at h2
                have hk2 := isM_lt hG hkl hM2 (by decide) (by decide)
                obtain ⟨r2, hr2⟩ := ih.1 n1 (k1 + 1) b1 n hk2 (by omega) (by omega)
                rw [hr2]
                exact ⟨_, rfl⟩
              · exact ⟨_, rfl⟩
            · exact ⟨_, rfl⟩
    refine ⟨?_, one⟩
    intro names k bad n hk hm hn
    obtain ⟨n, rfl⟩ : ∃ j, n = j + 1 := ⟨n - 1, by omega⟩
    simp only [arrowM]
    obtain ⟨⟨x, n1, k1, b1⟩, hr⟩ := one names k bad n hk hm (by omega)
    rw [hr]
    simp only [Option.bind_some]
    split
    · rename_i hM2
      have hle := ((tread_on l n).2 _ _ _ _ _ _ _ hr).1
      have hkl : k1 < l.length := by
        rcases Nat.lt_or_ge k1 l.length with h | h
        · exact h
        · simp only [isM, Bool.and_eq_true] at hM2
          have : tkAt l k1 = Tk.no := by simp [tkAt, List.getD_eq_getElem?_getD, List.getElem?_eq_none h]
          rw [this] at hM2
          have h2 := hM2.2
          simp [Tk.no] at h2
      have hk2 := isM_lt hG hkl hM2 (by decide) (by decide)
      obtain ⟨r2, hr2⟩ := ih.1 n1 (k1 + 1) b1 n hk2 (by omega) (by omega)
      rw [hr2]
      exact ⟨_, rfl⟩
    · exact ⟨_, rfl⟩
end Go.Proofs.YtleenphlgbklmaaGreatDoor

namespace Go.Proofs.YtleenphlgbklmaaGreatDoor
open Go.RowKit

mutual
theorem Ty.ind {P : Ty → Prop} (h : ∀ kd n kids, (∀ y, y ∈ kids → P y) → P (.mk kd n kids)) : ∀ x, P x
  | .mk kd n kids => h kd n kids (Ty.indL h kids)
theorem Ty.indL {P : Ty → Prop} (h : ∀ kd n kids, (∀ y, y ∈ kids → P y) → P (.mk kd n kids)) : ∀ (xs : List Ty) y, y ∈ xs → P y
  | [], y, hy => nomatch hy
  | x :: xs, y, hy => by
    rcases List.mem_cons.1 hy with e | e
    · rw [e]; exact Ty.ind h x
    · exact Ty.indL h xs y e
end

mutual
def sz : Ty → Nat
  | .mk _ _ kids => szs kids + 1
def szs : List Ty → Nat
  | [] => 0
  | x :: xs => sz x + szs xs
end
theorem szs_append (xs : List Ty) (y : Ty) : szs (xs ++ [y]) = szs xs + sz y := by
  induction xs with
  | nil => simp [szs]
  | cons x xs ih => simp only [List.cons_append, szs, ih]; omega
theorem szs_le {xs : List Ty} {y : Ty} (h : y ∈ xs) : sz y ≤ szs xs := by
  induction xs with
  | nil => cases h
  | cons x xs ih =>
    simp only [szs]
    rcases List.mem_cons.1 h with e | e
    · rw [e]; omega
    · have := ih e; omega
theorem szs_take_le (xs : List Ty) (q : Nat) : szs (xs.take q) ≤ szs xs := by
  induction xs generalizing q with
  | nil => simp
  | cons x xs ih =>
    cases q with
    | zero => simp [szs]
    | succ q => simp only [List.take_succ_cons, szs]; have := ih q; omega
def Ty.no : Ty := .mk { data := #[] } 0 []
theorem TReps.at {w : World} {ts : List Ty} {ps : List Value} (h : TReps w ts ps) (q : Nat) (hq : q < ts.length) : TRep w (ts.getD q Ty.no) (ps.getD q (.pointer none)) := by
  obtain ⟨p, h1, h2⟩ := h.get q ts[q] (List.getElem?_eq_getElem hq)
  simpa [List.getD, hq, h1] using h2
theorem row_max {w : World} {B : Nat} {e : TypeId} {v : Value} {n : Nat} {ps : List Value} (h4 : w.ownsRow B e 1 v n ps) : n ≤ 9223372036854775807 := by
  rcases h4.2 with ⟨e1, e2⟩ | ⟨g, c', cur, e1, _, _, e4, e5, _⟩
  · omega
  · unfold maxLen at e5; omega

set_option maxHeartbeats 1000000 in
theorem size_any (x : Ty) : ∀ (w : World) (v : Value), TRep w x v → sz x ≤ 1000000 →
    Calls Tryz.prog 46 #[v] w fun e w' => e = .returned (.int .i64 (sz x)) ∧ w' = w := by
  induction x using Ty.ind with
  | h kd n kids ih =>
    intro w v h hd
    simp only [TRep] at h
    obtain ⟨b, lv, ps, rfl, h2, h4, h5⟩ := h
    obtain ⟨ao, cap, rfl, hrow⟩ := row_form h4
    have hlen := h5.len
    have c2 : w.cell? ⟨b, 2, none⟩ = some (.slice ao ps.length cap) := by simp [World.cell?, h2]
    have hdp : sz (.mk kd n kids) = szs kids + 1 := by simp [sz]
    rw [hdp] at hd ⊢
    have hml := row_max h4
    have HL : Hid (ps.length = kids.length) := hlen
    clear hlen hdp h2 h4
    go_enter Tryz.func46, Tryz.ntmps46
    go_wp2
    clear c2
    go_loop [3, 11] (fun n i => ∃ q : Nat, q ≤ ps.length ∧ i = .int .i64 q ∧ n = .int .i64 (szs (kids.take q) + 1 : Nat)) (fun _ i => ps.length - (intOf i).toNat)
    case atStart => exact ⟨0, Nat.zero_le _, rfl, by simp [szs]⟩
    case round =>
      obtain ⟨q, hq, rfl, rfl⟩ := hrel
      by_cases hlt : q < ps.length
      · obtain ⟨g, rfl, hc⟩ := hrow q hlt
        have hqk : q < kids.length := by rw [← HL.out]; exact hlt
        have hf := h5.at q hqk
        have hc2 : w.cell? ⟨g, q, none⟩ = some (ps.getD q (.pointer none)) := by rw [hc]; simp [List.getD, hlt]
        have hmem : kids.getD q Ty.no ∈ kids := by simp [List.getD, hqk]
        have hle := szs_le hmem
        have ihq := ih _ hmem w _ hf (by omega)
        have hst : Hid (szs (kids.take (q + 1)) = szs (kids.take q) + sz (kids.getD q Ty.no)) := by
          show _ = _
          rw [List.take_succ_eq_append_getElem hqk, szs_append]
          simp [List.getD, hqk]
        have htl := szs_take_le kids q
        have htl2 := szs_take_le kids (q + 1)
        rw [hst.out] at htl2
        clear hc hrow ih h5 hmem hf
        generalize ps.getD q (.pointer none) = p at *
        generalize sz (kids.getD q Ty.no) = d at *
        generalize szs (kids.take q) = nq at *
        have IH : Hid (Calls Tryz.prog 46 #[p] w fun e w' => e = .returned (.int .i64 d) ∧ w' = w) := ihq
        clear ihq
        go_wp2_with fail
        refine Calls.mono (Hid.out IH) ?_
        rintro e w' ⟨rfl, rfl⟩
        go_wp2
        go_round
        case rel => exact ⟨q + 1, by omega, by go_num, by rw [hst.out]; go_num⟩
        case measure => simp [intOf]; omega
      · have hq2 : q = kids.length := by rw [← HL.out]; omega
        have hk : Hid (kids.take q = kids) := by show _ = _; rw [hq2, List.take_length]
        have hle := szs_take_le kids q
        clear ih h5 hrow hq2
        go_wp2
        go_ret
        exact ⟨by rw [hk.out]; rfl, rfl⟩
end Go.Proofs.YtleenphlgbklmaaGreatDoor

namespace Go.Proofs.YtleenphlgbklmaaGreatDoor
open Go.RowKit

/-- a type as it ought to be, of m variables. -/
inductive WT (m : Nat) : Ty → Prop
  | var (n : Nat) : n < m → WT m (.mk { data := #[] } n [])
  | int : WT m (.mk { data := #[105, 110, 116] } 0 [])
  | bool : WT m (.mk { data := #[98, 111, 111, 108] } 0 [])
  | list (a : Ty) : WT m a → WT m (.mk { data := #[108, 105, 115, 116] } 0 [a])
  | pair (a b : Ty) : WT m a → WT m b → WT m (.mk { data := #[112, 97, 105, 114] } 0 [a, b])
  | fn (a b : Ty) : WT m a → WT m b → WT m (.mk { data := #[102, 117, 110] } 0 [a, b])
theorem WT.up {m m' : Nat} (hm : m ≤ m') {t : Ty} (h : WT m t) : WT m' t := by
  induction h with
  | var n hn => exact .var n (by omega)
  | int => exact .int
  | bool => exact .bool
  | list a _ ih => exact .list a ih
  | pair a b _ _ iha ihb => exact .pair a b iha ihb
  | fn a b _ _ iha ihb => exact .fn a b iha ihb

theorem needB_negT {l : List Tk} {s : ByteArray} {k : Nat} {bad : Int} (h : needB l s k bad < 0) : bad < 0 ∧ isM l s k bad = true ∧ needB l s k bad = bad := by
  by_cases hb : 0 ≤ bad
  · rw [needB_geT hb] at h; omega
  · by_cases hM : isM l s k bad = true
    · exact ⟨by omega, hM, by unfold needB; rw [if_neg (by simp [hM])]⟩
    · exfalso
      unfold needB at h
      rw [if_pos (by simp [hM]; omega)] at h
      omega

theorem nameM_good (names : List ByteArray) (s : ByteArray) : (∃ u, (nameM names s).2 = names ++ u) ∧ WT (nameM names s).2.length (nameM names s).1 ∧ sz (nameM names s).1 = 1 := by
  unfold nameM
  split
  · rename_i j e
    have hj : j < names.length := by
      rw [List.findIdx?_eq_some_iff_getElem] at e
      exact e.1
    exact ⟨⟨[], by simp⟩, .var j hj, by simp [sz, szs]⟩
  · exact ⟨⟨[s], rfl⟩, .var _ (by simp), by simp [sz, szs]⟩

theorem tread_good (l : List Tk) : ∀ n, (∀ names k bad t names' k' bad', arrowM l n names k bad = some (t, names', k', bad') → bad' < 0 → bad < 0 ∧ sz t + k ≤ k' ∧ (∃ u, names' = names ++ u) ∧ WT names'.length t) ∧
    (∀ names k bad t names' k' bad', oneM l n names k bad = some (t, names', k', bad') → bad' < 0 → bad < 0 ∧ sz t + k ≤ k' ∧ (∃ u, names' = names ++ u) ∧ WT names'.length t) := by
  intro n
  induction n with
  | zero => exact ⟨fun _ _ _ _ _ _ _ h => by simp [arrowM] at h, fun _ _ _ _ _ _ _ h => by simp [oneM] at h⟩
  | succ n ih =>
    refine ⟨?_, ?_⟩
    · intro names k bad t names' k' bad' h hb
      simp only [arrowM] at h
      obtain ⟨⟨x, n1, k1, b1⟩, h1, h2⟩ := Option.bind_eq_some_iff.1 h
      simp only at h2
      split at h2
      · obtain ⟨⟨y, n2, k2, b2⟩, h3, h4⟩ := Option.bind_eq_some_iff.1 h2
        simp only [Option.some.injEq, Prod.mk.injEq] at h4
        obtain ⟨rfl, rfl, rfl, rfl⟩ := h4
        obtain ⟨i1, i2, ⟨u, rfl⟩, i4⟩ := ih.1 _ _ _ _ _ _ _ h3 hb
        obtain ⟨j1, j2, ⟨v, rfl⟩, j4⟩ := ih.2 _ _ _ _ _ _ _ h1 i1
        refine ⟨j1, ?_, ⟨v ++ u, by simp⟩, .fn x y (j4.up (by simp)) i4⟩
        simp only [sz, szs]
        omega
      · simp only [Option.some.injEq, Prod.mk.injEq] at h2
        obtain ⟨rfl, rfl, rfl, rfl⟩ := h2
        exact ih.2 _ _ _ _ _ _ _ h1 hb
    · intro names k bad t names' k' bad' h hb
      simp only [oneM] at h
      split at h
      · rename_i hM
        simp only [Option.some.injEq, Prod.mk.injEq] at h
        obtain ⟨rfl, rfl, rfl, rfl⟩ := h
        exact ⟨hb, by simp [sz, szs]; omega, ⟨[], by simp⟩, .int⟩
      · split at h
        · simp only [Option.some.injEq, Prod.mk.injEq] at h
          obtain ⟨rfl, rfl, rfl, rfl⟩ := h
          exact ⟨hb, by simp [sz, szs]; omega, ⟨[], by simp⟩, .bool⟩
        · split at h
          · obtain ⟨⟨x, n1, k1, b1⟩, h1, h2⟩ := Option.bind_eq_some_iff.1 h
            simp only [Option.some.injEq, Prod.mk.injEq] at h2
            obtain ⟨rfl, rfl, rfl, rfl⟩ := h2
            obtain ⟨q1, q2, q3⟩ := needB_negT hb
            obtain ⟨i1, i2, i3, i4⟩ := ih.1 _ _ _ _ _ _ _ h1 q1
            refine ⟨i1, ?_, i3, .list x i4⟩
            unfold takeK
            rw [if_pos q2]
            simp only [sz, szs]
            omega
          · split at h
            · obtain ⟨⟨x, n1, k1, b1⟩, h1, h2⟩ := Option.bind_eq_some_iff.1 h
              simp only at h2
              split at h2
              · obtain ⟨⟨y, n2, k2, b2⟩, h3, h4⟩ := Option.bind_eq_some_iff.1 h2
                simp only [Option.some.injEq, Prod.mk.injEq] at h4
                obtain ⟨rfl, rfl, rfl, rfl⟩ := h4
                obtain ⟨q1, q2, q3⟩ := needB_negT hb
                obtain ⟨i1, i2, ⟨u, rfl⟩, i4⟩ := ih.1 _ _ _ _ _ _ _ h3 q1
                obtain ⟨j1, j2, ⟨v, rfl⟩, j4⟩ := ih.1 _ _ _ _ _ _ _ h1 i1
                refine ⟨j1, ?_, ⟨v ++ u, by simp⟩, .pair x y (j4.up (by simp)) i4⟩
                unfold takeK
                rw [if_pos q2]
                simp only [sz, szs]
                omega
              · simp only [Option.some.injEq, Prod.mk.injEq] at h2
                obtain ⟨rfl, rfl, rfl, rfl⟩ := h2
                obtain ⟨q1, q2, q3⟩ := needB_negT hb
                obtain ⟨i1, i2, i3, i4⟩ := ih.1 _ _ _ _ _ _ _ h1 q1
                refine ⟨i1, ?_, i3, i4⟩
                unfold takeK
                rw [if_pos q2]
                omega
            · simp only [Option.some.injEq, Prod.mk.injEq] at h
              obtain ⟨rfl, rfl, rfl, rfl⟩ := h
              obtain ⟨q1, q2, q3⟩ := needB_negT hb
              obtain ⟨g1, g2, g3⟩ := nameM_good names (tkAt l k).s
              refine ⟨q1, ?_, g1, g2⟩
              unfold takeK
              rw [if_pos q2, g3]
              omega
end Go.Proofs.YtleenphlgbklmaaGreatDoor
