import Derived.Test.YtleenphlgbklmaaGreatDoorQWText
import Derived.Test.YtleenphlgbklmaaGreatDoorQWTake
import Derived.Deep.DeepCutAuto
import Derived.Deep.LoopGhost
import Derived.Test.YtleenphlgbklmaaGreatDoorQWFun
set_option linter.unusedVariables false
set_option linter.unusedSimpArgs false
namespace Go.Proofs.YtleenphlgbklmaaGreatDoor
open Go.RowKit

theorem Rep.form {w : World} {x : X} {v : Value} {fs : List Nat} (h : Rep w x v fs) : ∃ b, v = .pointer (some ⟨b, 0, none⟩) ∧ w.cell? ⟨b, 0, none⟩ = some (.string x.op) := by
  cases x with
  | mk op names kids loc =>
    simp only [Rep] at h
    obtain ⟨b, nv, lv, ps, fk, h1, h2, _⟩ := h
    exact ⟨b, h1, by simp [World.cell?, h2, X.op]⟩

theorem needsF_cases (o : ByteArray) : (needsF o = false ∧ (o.toList == [102, 117, 110]) = false ∧ (o.toList == [105, 102]) = false ∧ (o.toList == [108, 101, 116]) = false ∧ (o.toList == [114, 101, 99]) = false) ∨
    (needsF o = true ∧ (o.toList == [102, 117, 110]) = true) ∨ (needsF o = true ∧ (o.toList == [102, 117, 110]) = false ∧ (o.toList == [105, 102]) = true) ∨
    (needsF o = true ∧ (o.toList == [102, 117, 110]) = false ∧ (o.toList == [105, 102]) = false ∧ (o.toList == [108, 101, 116]) = true) ∨
    (needsF o = true ∧ (o.toList == [102, 117, 110]) = false ∧ (o.toList == [105, 102]) = false ∧ (o.toList == [108, 101, 116]) = false ∧ (o.toList == [114, 101, 99]) = true) := by
  simp only [needsF, ByteArray.toList_eq]
  cases (o.data.toList == [102, 117, 110]) <;> cases (o.data.toList == [105, 102]) <;> cases (o.data.toList == [108, 101, 116]) <;> cases (o.data.toList == [114, 101, 99]) <;> simp
theorem needsA_cases (o : ByteArray) : (needsA o = true ∧ (o.toList == [110, 97, 109, 101]) = false ∧ (o.toList == [110, 117, 109]) = false ∧ (o.toList == [112, 97, 105, 114]) = false) ∨
    (needsA o = false ∧ (o.toList == [110, 97, 109, 101]) = true) ∨ (needsA o = false ∧ (o.toList == [110, 97, 109, 101]) = false ∧ (o.toList == [110, 117, 109]) = true) ∨
    (needsA o = false ∧ (o.toList == [110, 97, 109, 101]) = false ∧ (o.toList == [110, 117, 109]) = false ∧ (o.toList == [112, 97, 105, 114]) = true) := by
  simp only [needsA, ByteArray.toList_eq]
  cases (o.data.toList == [110, 97, 109, 101]) <;> cases (o.data.toList == [110, 117, 109]) <;> cases (o.data.toList == [112, 97, 105, 114]) <;> simp

set_option maxRecDepth 20000 in
set_option maxHeartbeats 8000000 in
theorem text_app (a a2 : X) (loc : Nat) (ih : SText a) (ih2 : SText a2) : SText (.mk { data := #[97, 112, 112] } [] [a, a2] loc) := by
  intro w v fs hr hwf ht
  obtain ⟨hwa, hwa2⟩ : WF a ∧ WF a2 := by
    cases hwf with
    | app _ _ _ h h2 => exact ⟨h, h2⟩
    | lt _ _ _ _ h _ _ _ => rcases h with h | h <;> exact absurd h (by decide)
  simp only [Rep, Reps] at hr
  obtain ⟨b, nv, lv, ps, fk, rfl, h2, _, h4, ⟨p, qs, f1, f2, rfl, hra, ⟨p2, qs2, f3, f4, rfl, hra2, ⟨rfl, rfl⟩, rfl⟩, rfl⟩, _⟩ := hr
  obtain ⟨ao2, cap2, rfl, hrow2⟩ := row_form h4
  obtain ⟨g2, rfl, hc2⟩ := hrow2 0 (by simp)
  obtain ⟨g2', e, hc3⟩ := hrow2 1 (by simp)
  obtain rfl : g2 = g2' := by injection e with e; injection e
  have c0 : w.cell? ⟨b, 0, none⟩ = some (.string { data := #[97, 112, 112] }) := by simp [World.cell?, h2]
  have c2 : w.cell? ⟨b, 2, none⟩ = some (.slice (some ⟨g2, 0, none⟩) 2 cap2) := by simp [World.cell?, h2]
  simp at hc2 hc3
  simp [tw, tws] at ht
  have sz := txt_size a hwa
  have sz2 := txt_size a2 hwa2
  have ha := ih.at hra hwa (by omega)
  have ha2 := ih2.at hra2 hwa2 (by omega)
  have e1 : Hid (txt (.mk { data := #[97, 112, 112] } [] [a, a2] loc) = brk (needsF a.op) (txt a) ++ { data := #[32] } ++ brk (needsA a2.op) (txt a2)) := by simp [Hid, txt, txts]
  have s1 : (txt a).size ≤ 1000000 := by omega
  have s2 : (txt a2).size ≤ 1000000 := by omega
  obtain ⟨b1, rfl, o1⟩ := hra.form
  obtain ⟨b2, rfl, o2⟩ := hra2.form
  generalize txt a = ta at *
  generalize txt a2 = ta2 at *
  have q1 := needsF_cases a.op
  have q2 := needsA_cases a2.op
  generalize a.op = oa at *
  generalize a2.op = ob at *
  clear h2 h4 hrow2 ih hra hwa hwf sz ht ih2 hra2 hwa2 sz2 e
  have HA : Hid (∀ n : Nat, Calls Tryz.prog 17 #[.pointer (some ⟨b1, 0, none⟩)] (w.drewN n) fun e w' => e = .returned (.string ta) ∧ ∃ m, w' = (w.drewN n).drewN m) := ha
  have HA2 : Hid (∀ n : Nat, Calls Tryz.prog 17 #[.pointer (some ⟨b2, 0, none⟩)] (w.drewN n) fun e w' => e = .returned (.string ta2) ∧ ∃ m, w' = (w.drewN n).drewN m) := ha2
  have Q2 : Hid _ := q2
  clear ha ha2 q2
  go_enter Tryz.func17, Tryz.ntmps17
  go_wp2_with fail
  refine Calls.mono (HA.out 0) ?_
  rintro e w1 ⟨rfl, m1, rfl⟩
  rcases q1 with ⟨n1, t1, t2, t3, t4⟩ | ⟨n1, t1⟩ | ⟨n1, t1, t2⟩ | ⟨n1, t1, t2, t3⟩ | ⟨n1, t1, t2, t3, t4⟩
  all_goals
    have N1 : Hid _ := n1
    clear n1
    go_wp2_with fail
    refine Calls.mono (HA2.out _) ?_
    rintro e w2 ⟨rfl, m2, rfl⟩
    try clear t1
    try clear t2
    try clear t3
    try clear t4
    rcases Q2.out with ⟨n2, t1, t2, t3⟩ | ⟨n2, t1⟩ | ⟨n2, t1, t2⟩ | ⟨n2, t1, t2, t3⟩
    all_goals
      have N2 : Hid _ := n2
      clear n2
      go_wp2
      go_ret
      exact ⟨ret_str (by rw [e1.out, N1.out, N2.out]; rfl), _, rfl⟩
end Go.Proofs.YtleenphlgbklmaaGreatDoor

namespace Go.Proofs.YtleenphlgbklmaaGreatDoor
open Go.RowKit

theorem len_le_sum (ns : List ByteArray) : ns.length ≤ (ns.map fun s => s.size + 16).sum := by
  induction ns with
  | nil => simp
  | cons a ns ih => simp only [List.length_cons, List.map_cons, List.sum_cons]; omega

theorem strs_form {w : World} {B : Nat} {v : Value} {names : List ByteArray} (h : w.ownsRow B 9 1 v names.length (names.map Value.string)) :
    ∃ ao cap, v = .slice ao names.length cap ∧ ∀ i, i < names.length → ∃ g, ao = some ⟨g, 0, none⟩ ∧ w.cell? ⟨g, i, none⟩ = some (.string (names.getD i { data := #[] })) := by
  have h' : w.ownsRow B 9 1 v (names.map Value.string).length (names.map Value.string) := by simpa using h
  obtain ⟨ao, cap, rfl, hr⟩ := row_form h'
  refine ⟨ao, cap, by simp, fun i hi => ?_⟩
  obtain ⟨g, rfl, hc⟩ := hr i (by simpa using hi)
  exact ⟨g, rfl, by rw [hc]; simp [hi]⟩

set_option maxRecDepth 20000 in
set_option maxHeartbeats 8000000 in
theorem text_let (op : ByteArray) (names : List ByteArray) (kids : List X) (loc : Nat) (hop : op = { data := #[108, 101, 116] } ∨ op = { data := #[114, 101, 99] }) (hkl : kids.length = names.length + 1) (h1 : names ≠ []) (ih : ∀ a, a ∈ kids → SText a) (hwk : ∀ a, a ∈ kids → WF a) : SText (.mk op names kids loc) := by
  intro w v fs hr _ ht
  simp only [Rep] at hr
  obtain ⟨b, nv, lv, ps, fk, rfl, h2, h3, h4, h5, _⟩ := hr
  obtain ⟨ao, cap, rfl, hrow⟩ := strs_form h3
  obtain ⟨ao2, cap2, rfl, hrow2⟩ := row_form h4
  have hpl := h5.len
  have hn0 : 0 < names.length := by cases names with | nil => exact absurd rfl h1 | cons _ _ => simp
  obtain ⟨g, rfl, _⟩ := hrow 0 hn0
  obtain ⟨g2, rfl, _⟩ := hrow2 0 (by omega)
  have hnc : ∀ i, i < names.length → w.cell? ⟨g, i, none⟩ = some (.string (names.getD i { data := #[] })) := fun i hi => by
    obtain ⟨g', e, hc⟩ := hrow i hi
    obtain rfl : g = g' := by injection e with e; injection e
    exact hc
  have hkc : ∀ i, i < names.length + 1 → w.cell? ⟨g2, i, none⟩ = some (ps.getD i (.pointer none)) := fun i hi => by
    obtain ⟨g', e, hc⟩ := hrow2 i (by omega)
    obtain rfl : g2 = g' := by injection e with e; injection e
    rw [hc]
    have : i < ps.length := by omega
    simp [List.getD, this]
  have c0 : w.cell? ⟨b, 0, none⟩ = some (.string op) := by simp [World.cell?, h2]
  have c1 : w.cell? ⟨b, 1, none⟩ = some (.slice (some ⟨g, 0, none⟩) names.length cap) := by simp [World.cell?, h2]
  have c2 : w.cell? ⟨b, 2, none⟩ = some (.slice (some ⟨g2, 0, none⟩) (names.length + 1) cap2) := by simp [World.cell?, h2, hpl, hkl]
  simp only [tw] at ht
  have hsz : ∀ y, y ∈ kids → (txt y).size ≤ tw y := fun y hy => txt_size y (hwk y hy)
  have hcall : ∀ i, i < names.length + 1 → ∀ n : Nat, Calls Tryz.prog 17 #[ps.getD i (.pointer none)] (w.drewN n) fun e w' => e = .returned (.string ((txts kids).getD i { data := #[] })) ∧ ∃ m, w' = (w.drewN n).drewN m := fun i hi n => by
    have hi' : i < kids.length := by omega
    have hm := getD_mem (xs := kids) (q := i) hi'
    obtain ⟨f, hf, _⟩ := h5.get i hi'
    rw [txts_get kids i hi']
    exact (ih _ hm).at hf (hwk _ hm) (by have := tws_get hm; omega) n
  have hts : ∀ i, i < names.length + 1 → ((txts kids).getD i { data := #[] }).size ≤ 1000000 := fun i hi => by
    have hi' : i < kids.length := by omega
    have hm := getD_mem (xs := kids) (q := i) hi'
    rw [txts_get kids i hi']
    have := hsz _ hm
    have := tws_get hm
    omega
  have hns : ∀ i, i < names.length → (names.getD i { data := #[] }).size ≤ 1000000 := fun i hi => by have := names_get hi; omega
  have hlet : ∀ s0 : ByteArray, s0.size ≤ 8 → ∀ q, q ≤ names.length → (letT s0 names (txts kids) q).size ≤ 2000000 := fun s0 hs q hq => by
    have := letT_size s0 names kids hsz q hq (by omega)
    have := sum_take names q
    have := tws_take kids q
    omega
  have hnl : names.length ≤ 1000000 := by
    have := len_le_sum names
    omega
  have HC : Hid _ := hcall
  obtain ⟨s0, hs0, hs08, hs0t⟩ : ∃ s0 : ByteArray, s0 = (if op = { data := #[114, 101, 99] } then { data := #[108, 101, 116, 32] } ++ { data := #[114, 101, 99, 32] } else { data := #[108, 101, 116, 32] }) ∧ s0.size ≤ 8 ∧ txt (.mk op names kids loc) = letT s0 names (txts kids) names.length ++ { data := #[32, 105, 110, 32] } ++ (txts kids).getD names.length { data := #[] } := by
    refine ⟨_, rfl, ?_, ?_⟩
    · rcases hop with rfl | rfl
      · decide
      · decide
    · rcases hop with rfl | rfl
      · simp [txt]
      · simp [txt]
  have hl2 := hlet s0 hs08
  have E1 : Hid _ := hs0t
  clear hlet hsz hcall hs0t h2 h3 h4 h5 hrow hrow2 ht ih hwk hpl hkl h1
  generalize txts kids = ts at *
  have HS : Hid (s0 = (if op = { data := #[114, 101, 99] } then { data := #[108, 101, 116, 32] } ++ { data := #[114, 101, 99, 32] } else { data := #[108, 101, 116, 32] })) := hs0
  clear hs0
  rcases hop with rfl | rfl
  all_goals
    go_enter Tryz.func17, Tryz.ntmps17
    go_wp2
    have c1b := c1
    clear c0 c1
    go_loopw [7, 169] (fun sv i wr => ∃ q : Nat, q ≤ names.length ∧ i = .int .i64 q ∧ sv = .string (letT s0 names ts q) ∧ ∃ n, wr = w.drewN n) (fun _ i _ => names.length - (intOf i).toNat)
    case atStart => exact ⟨0, Nat.zero_le _, rfl, by rw [letT, HS.out]; rfl, 0, rfl⟩
    case round =>
      obtain ⟨q, hq, rfl, rfl, n, rfl⟩ := hrel
      by_cases hlt : q < names.length
      · have n1 := hnc q hlt
        have k1 := hkc q (by omega)
        have z1 := hns q hlt
        have z2 := hts q (by omega)
        have z3 := hl2 q hq
        have CQ : Hid (∀ n : Nat, Calls Tryz.prog 17 #[ps.getD q (.pointer none)] (w.drewN n) fun e w' => e = .returned (.string (ts.getD q { data := #[] })) ∧ ∃ m, w' = (w.drewN n).drewN m) := HC.out q (by omega)
        have ST : Hid (letT s0 names ts (q + 1) = (if 0 < q then letT s0 names ts q ++ { data := #[32, 97, 110, 100, 32] } else letT s0 names ts q) ++ (names.getD q { data := #[] } ++ { data := #[32, 61, 32] } ++ ts.getD q { data := #[] })) := rfl
        generalize letT s0 names ts q = l0 at *
        generalize names.getD q { data := #[] } = nq at *
        generalize ts.getD q { data := #[] } = tq at *
        generalize ps.getD q (.pointer none) = pq at *
        clear hnc hkc hns hts hl2 HC
        by_cases hq0 : 0 < q
        · have E2 : Hid (letT s0 names ts (q + 1) = l0 ++ { data := #[32, 97, 110, 100, 32] } ++ (nq ++ { data := #[32, 61, 32] } ++ tq)) := by show _ = _; rw [ST.out, if_pos hq0]
          clear ST
          go_wp2_with fail
          refine Calls.mono (CQ.out _) ?_
          rintro e w1 ⟨rfl, m1, rfl⟩
          go_wp2
          go_roundw
          case rel => exact ⟨q + 1, by omega, by go_num, congrArg Value.string E2.out.symm, _, rfl⟩
          case measure => simp [intOf]; omega
        · have E2 : Hid (letT s0 names ts (q + 1) = l0 ++ (nq ++ { data := #[32, 61, 32] } ++ tq)) := by show _ = _; rw [ST.out, if_neg hq0]
          clear ST
          go_wp2_with fail
          refine Calls.mono (CQ.out _) ?_
          rintro e w1 ⟨rfl, m1, rfl⟩
          go_wp2
          go_roundw
          case rel => exact ⟨q + 1, by omega, by go_num, congrArg Value.string E2.out.symm, _, rfl⟩
          case measure => simp [intOf]; omega
      · have hql : q = names.length := by omega
        subst hql
        have k1 := hkc names.length (by omega)
        have z2 := hts names.length (by omega)
        have z3 := hl2 names.length (by omega)
        have CQ : Hid (∀ n : Nat, Calls Tryz.prog 17 #[ps.getD names.length (.pointer none)] (w.drewN n) fun e w' => e = .returned (.string (ts.getD names.length { data := #[] })) ∧ ∃ m, w' = (w.drewN n).drewN m) := HC.out names.length (by omega)
        clear hnc hkc hns hts hl2 HC
        generalize letT s0 names ts names.length = l0 at *
        generalize ts.getD names.length { data := #[] } = tq at *
        generalize ps.getD names.length (.pointer none) = pq at *
        have k2 : (names.length : Int) < (names.length : Int) + 1 := by omega
        have d1 : (w.drewN n).cell? ⟨b, 1, none⟩ = some (.slice (some ⟨g, 0, none⟩) names.length cap) := c1b
        have d2 : (w.drewN n).cell? ⟨b, 2, none⟩ = some (.slice (some ⟨g2, 0, none⟩) (names.length + 1) cap2) := c2
        have d3 : (w.drewN n).cell? ⟨g2, names.length, none⟩ = some pq := k1
        have CW : Hid (∀ m : Nat, Calls Tryz.prog 17 #[pq] ((w.drewN n).drewN m) fun e w' => e = .returned (.string tq) ∧ ∃ j, w' = ((w.drewN n).drewN m).drewN j) := fun m => by rw [World.drewN_drewN]; exact CQ.out (n + m)
        obtain ⟨W, hW⟩ : ∃ W, W = w.drewN n := ⟨_, rfl⟩
        have HW : Hid (W = w.drewN n) := hW
        rw [← hW] at d1 d2 d3 CW ⊢
        clear hW c1b c2 k1 CQ
        go_wp2
        go_quiet ((go_at_call 17; exact Calls.quiet_of (CW.out _)))
        go_wp2
        go_ret
        exact ⟨ret_str E1.out.symm, by rw [HW.out]; exact ⟨_, World.drewN_drewN _ _ _⟩⟩
end Go.Proofs.YtleenphlgbklmaaGreatDoor

namespace Go.Proofs.YtleenphlgbklmaaGreatDoor

theorem text_any (x : X) : SText x := by
  induction x using X.ind with
  | h op names kids loc ih =>
    intro w v fs hr hwf ht
    cases hwf with
    | leaf _ n _ h => exact text_leaf op n loc h w v fs hr (.leaf op n loc h) ht
    | fn n a _ ha => exact text_fun n a loc (ih a (by simp)) w v fs hr (.fn n a loc ha) ht
    | pair a b _ ha hb => exact text_pair a b loc (ih a (by simp)) (ih b (by simp)) w v fs hr (.pair a b loc ha hb) ht
    | ite a b c _ ha hb hc => exact text_if a b c loc (ih a (by simp)) (ih b (by simp)) (ih c (by simp)) w v fs hr (.ite a b c loc ha hb hc) ht
    | app a b _ ha hb => exact text_app a b loc (ih a (by simp)) (ih b (by simp)) w v fs hr (.app a b loc ha hb) ht
    | lt _ _ _ _ h hl h1 hk => exact text_let op names kids loc h hl h1 ih hk w v fs hr (.lt op names kids loc h hl h1 hk) ht
end Go.Proofs.YtleenphlgbklmaaGreatDoor

namespace Go.Proofs.YtleenphlgbklmaaGreatDoor
open Go.RowKit

section
variable {w w' w'' : World} {rb tb c : Nat} {l : List Tk} {k k' k'' : Nat} {bad bad' bad'' : Int} {nb B : Nat} {names names' names'' : List ByteArray}
theorem TEnd.take (h : TEnd w w' rb tb c l k bad nb B names) (hr : rb < B) (g : Kp (· = rb) w' w'') (r : Rd w'' rb tb c l k' bad') (hk : k' < l.length) : TEnd w w'' rb tb c l k' bad' nb B names :=
  ⟨h.kp.trans (g.mono fun q _ e => Or.inl e), h.tk.trans (TKeep.rd h.rd g), r, hk, h.nm.kp g hr⟩
theorem TEnd.start (h : Rd w rb tb c l k bad) (hk : k < l.length) (hn : Nm w nb B names) : TEnd w w rb tb c l k bad nb B names := ⟨Kp.refl _ _, TKeep.refl _, h, hk, hn⟩
theorem TEnd.trans (h : TEnd w w' rb tb c l k bad nb B names) (g : TEnd w' w'' rb tb c l k' bad' nb B names') : TEnd w w'' rb tb c l k' bad' nb B names' :=
  ⟨h.kp.trans g.kp, h.tk.trans g.tk, g.rd, g.kl, g.nm⟩
theorem TEnd.alloc (h : TEnd w w' rb tb c l k bad nb B names) (o : Obj) : TEnd w (w'.alloc o) rb tb c l k bad nb B names :=
  ⟨h.kp.alloc o, h.tk.trans (TKeep.alloc _ _), h.rd.alloc o, h.kl, h.nm.alloc o⟩
theorem TEnd.drew (h : TEnd w w' rb tb c l k bad nb B names) : TEnd w w'.drew rb tb c l k bad nb B names :=
  ⟨h.kp.drew, h.tk.trans (TKeep.drew _), h.rd.drew, h.kl, h.nm.drew⟩
end

set_option maxRecDepth 20000 in
set_option maxHeartbeats 2000000 in
theorem arr_step (l : List Tk) (hl : l.length ≤ 1000) (hG : Good l) (n : Nat) (hA : SArr l n) (hO : SOne l n) : SArr l (n + 1) := by
  intro w rb tb c k bad nb B names t names' k' bad' h hk hn hr ht hok hM
  simp only [arrowM] at hM
  obtain ⟨⟨x, n1, k1, b1⟩, h1, h2⟩ := Option.bind_eq_some_iff.1 hM
  obtain ⟨hk1, hok1⟩ := (tread_ok l hG n).2 _ _ _ _ _ _ _ h1 hk hok
  have H1 : Hid _ := h1
  have H2 : Hid _ := h2
  clear hM h1 h2
  go_enter Tryz.func45, Tryz.ntmps45
  go_wp2_with fail
  refine (hO w rb tb c k bad nb B names x n1 k1 b1 h hk hn hr ht hok H1.out).mono ?_
  rintro e w1 ⟨p, rfl, hx, E1⟩
  obtain ⟨pb, rfl⟩ := hx.ptr
  clear h hn
  go_wp2_with fail
  refine (take_any w1 rb tb c l k1 b1 _ E1.rd E1.kl hl).mono ?_
  rintro e w2 ⟨rfl, g2, r2⟩
  have hx2 := TRep.keep (TKeep.rd E1.rd g2) x hx
  by_cases hMa : isM l { data := #[45, 62] } k1 b1 = true
  · rw [takeK, if_pos hMa] at r2
    have hk2 := isM_lt hG hk1 hMa (by decide) (by decide)
    have E2 := E1.take hr g2 r2 hk2
    have q := H2.out
    simp only [hMa, if_true] at q
    obtain ⟨⟨y, n2, k3, b3⟩, h3, h4⟩ := Option.bind_eq_some_iff.1 q
    simp only [Option.some.injEq, Prod.mk.injEq] at h4
    obtain ⟨rfl, rfl, rfl, rfl⟩ := h4
    have H3 : Hid _ := h3
    rw [hMa]
    clear q h3 hMa H2 E1 g2 r2 hx
    go_wp2_with fail
    refine (hA w2 rb tb c (k1 + 1) b1 nb B n1 y n2 k3 b3 E2.rd E2.kl E2.nm hr ht hok1 H3.out).mono ?_
    rintro e w3 ⟨p2, rfl, hy, E3⟩
    obtain ⟨pb2, rfl⟩ := hy.ptr
    have hx3 := TRep.keep E3.tk x hx2
    go_wp2
    go_ret
    exact ⟨_, rfl, tnode2 { data := #[102, 117, 110] } hx3 hy, ((E2.trans E3).alloc _).alloc _⟩
  · have hMf : isM l { data := #[45, 62] } k1 b1 = false := by simpa using hMa
    rw [takeK, if_neg hMa] at r2
    have E2 := E1.take hr g2 r2 hk1
    have q := H2.out
    simp only [hMf, Bool.false_eq_true, if_false, Option.some.injEq, Prod.mk.injEq] at q
    obtain ⟨rfl, rfl, rfl, rfl⟩ := q
    rw [hMf]
    clear hMa hMf H2 E1 g2 r2 hx
    go_wp2_with fail
    go_ret
    exact ⟨_, rfl, hx2, E2⟩
end Go.Proofs.YtleenphlgbklmaaGreatDoor

namespace Go.Proofs.YtleenphlgbklmaaGreatDoor
open Go.RowKit

set_option maxRecDepth 20000 in
set_option maxHeartbeats 4000000 in
theorem one_int (l : List Tk) (hl : l.length ≤ 1000) (hG : Good l) (n : Nat) (hA : SArr l n) (w : World) (rb tb c k : Nat) (bad : Int) (nb B : Nat) (names : List ByteArray) (t : Ty) (names' : List ByteArray) (k' : Nat) (bad' : Int) (h : Rd w rb tb c l k bad) (hk : k < l.length) (hn : Nm w nb B names) (hr : rb < B) (ht : tb < B) (hok : NmOk l names) (h0 : isM l { data := #[105, 110, 116] } k bad = true) (hM : oneM l (n + 1) names k bad = some (t, names', k', bad')) :
    Calls Tryz.prog 83 #[.pointer (some ⟨rb, 0, none⟩), .pointer (some ⟨nb, 0, none⟩)] w fun e w' => ∃ p, e = .returned p ∧ TRep w' t p ∧ TEnd w w' rb tb c l k' bad' nb B names' := by
  have E0 := TEnd.start h hk hn
  simp only [oneM, h0, Bool.false_eq_true, if_false, if_true] at hM
  have HM : Hid _ := hM
  clear hM
  go_enter Tryz.func83, Tryz.ntmps83
  go_wp2_with fail
  refine (take_any _ rb tb c l k bad _ E0.rd E0.kl hl).mono ?_
  rintro e w1 ⟨rfl, g, r⟩
  have hk1 := isM_lt hG hk h0 (by decide) (by decide)
  rw [takeK, if_pos h0] at r
  rw [h0]
  have E := E0.take hr g r hk1
  clear g r E0 h0
  go_wp2
  go_ret
  have q := HM.out
  simp only [Option.some.injEq, Prod.mk.injEq] at q
  obtain ⟨rfl, rfl, rfl, rfl⟩ := q
  exact ⟨_, rfl, tleaf _ { data := #[105, 110, 116] } 0, E.alloc _⟩

set_option maxRecDepth 20000 in
set_option maxHeartbeats 4000000 in
theorem one_bool (l : List Tk) (hl : l.length ≤ 1000) (hG : Good l) (n : Nat) (hA : SArr l n) (w : World) (rb tb c k : Nat) (bad : Int) (nb B : Nat) (names : List ByteArray) (t : Ty) (names' : List ByteArray) (k' : Nat) (bad' : Int) (h : Rd w rb tb c l k bad) (hk : k < l.length) (hn : Nm w nb B names) (hr : rb < B) (ht : tb < B) (hok : NmOk l names) (h0 : isM l { data := #[105, 110, 116] } k bad = false) (h1 : isM l { data := #[98, 111, 111, 108] } k bad = true) (hM : oneM l (n + 1) names k bad = some (t, names', k', bad')) :
    Calls Tryz.prog 83 #[.pointer (some ⟨rb, 0, none⟩), .pointer (some ⟨nb, 0, none⟩)] w fun e w' => ∃ p, e = .returned p ∧ TRep w' t p ∧ TEnd w w' rb tb c l k' bad' nb B names' := by
  have E0 := TEnd.start h hk hn
  simp only [oneM, h0, h1, Bool.false_eq_true, if_false, if_true] at hM
  have HM : Hid _ := hM
  clear hM
  go_enter Tryz.func83, Tryz.ntmps83
  go_wp2_with fail
  refine (take_any _ rb tb c l k bad _ E0.rd E0.kl hl).mono ?_
  rintro e w1 ⟨rfl, g, r⟩
  rw [takeK, if_neg (by rw [h0]; decide)] at r
  rw [h0]
  have E1 := E0.take hr g r hk
  clear g r E0 h0
  go_wp2_with fail
  refine (take_any _ rb tb c l k bad _ E1.rd E1.kl hl).mono ?_
  rintro e w2 ⟨rfl, g, r⟩
  have hk1 := isM_lt hG hk h1 (by decide) (by decide)
  rw [takeK, if_pos h1] at r
  rw [h1]
  have E := E1.take hr g r hk1
  clear g r E1 h1
  go_wp2
  go_ret
  have q := HM.out
  simp only [Option.some.injEq, Prod.mk.injEq] at q
  obtain ⟨rfl, rfl, rfl, rfl⟩ := q
  exact ⟨_, rfl, tleaf _ { data := #[98, 111, 111, 108] } 0, E.alloc _⟩

set_option maxRecDepth 20000 in
set_option maxHeartbeats 4000000 in
theorem one_list (l : List Tk) (hl : l.length ≤ 1000) (hG : Good l) (n : Nat) (hA : SArr l n) (w : World) (rb tb c k : Nat) (bad : Int) (nb B : Nat) (names : List ByteArray) (t : Ty) (names' : List ByteArray) (k' : Nat) (bad' : Int) (h : Rd w rb tb c l k bad) (hk : k < l.length) (hn : Nm w nb B names) (hr : rb < B) (ht : tb < B) (hok : NmOk l names) (h0 : isM l { data := #[105, 110, 116] } k bad = false) (h1 : isM l { data := #[98, 111, 111, 108] } k bad = false) (h2 : isM l { data := #[91] } k bad = true) (hM : oneM l (n + 1) names k bad = some (t, names', k', bad')) :
    Calls Tryz.prog 83 #[.pointer (some ⟨rb, 0, none⟩), .pointer (some ⟨nb, 0, none⟩)] w fun e w' => ∃ p, e = .returned p ∧ TRep w' t p ∧ TEnd w w' rb tb c l k' bad' nb B names' := by
  have E0 := TEnd.start h hk hn
  simp only [oneM, h0, h1, h2, Bool.false_eq_true, if_false, if_true] at hM
  have HM : Hid _ := hM
  clear hM
  go_enter Tryz.func83, Tryz.ntmps83
  go_wp2_with fail
  refine (take_any _ rb tb c l k bad _ E0.rd E0.kl hl).mono ?_
  rintro e w1 ⟨rfl, g, r⟩
  rw [takeK, if_neg (by rw [h0]; decide)] at r
  rw [h0]
  have E1 := E0.take hr g r hk
  clear g r E0 h0
  go_wp2_with fail
  refine (take_any _ rb tb c l k bad _ E1.rd E1.kl hl).mono ?_
  rintro e w2 ⟨rfl, g, r⟩
  rw [takeK, if_neg (by rw [h1]; decide)] at r
  rw [h1]
  have E2 := E1.take hr g r hk
  clear g r E1 h1
  go_wp2_with fail
  refine (take_any _ rb tb c l k bad _ E2.rd E2.kl hl).mono ?_
  rintro e w3 ⟨rfl, g, r⟩
  have hk1 := isM_lt hG hk h2 (by decide) (by decide)
  rw [takeK, if_pos h2] at r
  rw [h2]
  have E := E2.take hr g r hk1
  clear g r E2 h2
  obtain ⟨⟨x, n1, k1, b1⟩, q1, q2⟩ := Option.bind_eq_some_iff.1 HM.out
  obtain ⟨hk2, hok2⟩ := (tread_ok l hG n).1 _ _ _ _ _ _ _ q1 hk1 hok
  simp only [Option.some.injEq, Prod.mk.injEq] at q2
  obtain ⟨rfl, rfl, rfl, rfl⟩ := q2
  have H1 : Hid _ := q1
  clear q1 HM
  go_wp2_with fail
  refine (hA _ rb tb c (k + 1) bad nb B names x n1 k1 b1 E.rd E.kl E.nm hr ht hok H1.out).mono ?_
  rintro e wa ⟨p, rfl, hx, Ea⟩
  obtain ⟨pb, rfl⟩ := hx.ptr
  have E2 := E.trans Ea
  clear E Ea
  go_wp2_with fail
  refine (need_any _ rb tb c l k1 b1 _ E2.rd E2.kl hl).mono ?_
  rintro e wb ⟨rfl, g, r⟩
  have hx2 := TRep.keep (TKeep.rd E2.rd g) x hx
  have E3 := E2.take hr g r (takeK_lt hG hk2 (by decide) (by decide))
  clear g r E2 hx
  go_wp2
  go_ret
  exact ⟨_, rfl, tnode1 { data := #[108, 105, 115, 116] } hx2, (E3.alloc _).alloc _⟩

set_option maxRecDepth 20000 in
set_option maxHeartbeats 4000000 in
theorem one_br (l : List Tk) (hl : l.length ≤ 1000) (hG : Good l) (n : Nat) (hA : SArr l n) (w : World) (rb tb c k : Nat) (bad : Int) (nb B : Nat) (names : List ByteArray) (t : Ty) (names' : List ByteArray) (k' : Nat) (bad' : Int) (h : Rd w rb tb c l k bad) (hk : k < l.length) (hn : Nm w nb B names) (hr : rb < B) (ht : tb < B) (hok : NmOk l names) (h0 : isM l { data := #[105, 110, 116] } k bad = false) (h1 : isM l { data := #[98, 111, 111, 108] } k bad = false) (h2 : isM l { data := #[91] } k bad = false) (h3 : isM l { data := #[40] } k bad = true) (hM : oneM l (n + 1) names k bad = some (t, names', k', bad')) :
    Calls Tryz.prog 83 #[.pointer (some ⟨rb, 0, none⟩), .pointer (some ⟨nb, 0, none⟩)] w fun e w' => ∃ p, e = .returned p ∧ TRep w' t p ∧ TEnd w w' rb tb c l k' bad' nb B names' := by
  have E0 := TEnd.start h hk hn
  simp only [oneM, h0, h1, h2, h3, Bool.false_eq_true, if_false, if_true] at hM
  have HM : Hid _ := hM
  clear hM
  go_enter Tryz.func83, Tryz.ntmps83
  go_wp2_with fail
  refine (take_any _ rb tb c l k bad _ E0.rd E0.kl hl).mono ?_
  rintro e w1 ⟨rfl, g, r⟩
  rw [takeK, if_neg (by rw [h0]; decide)] at r
  rw [h0]
  have E1 := E0.take hr g r hk
  clear g r E0 h0
  go_wp2_with fail
  refine (take_any _ rb tb c l k bad _ E1.rd E1.kl hl).mono ?_
  rintro e w2 ⟨rfl, g, r⟩
  rw [takeK, if_neg (by rw [h1]; decide)] at r
  rw [h1]
  have E2 := E1.take hr g r hk
  clear g r E1 h1
  go_wp2_with fail
  refine (take_any _ rb tb c l k bad _ E2.rd E2.kl hl).mono ?_
  rintro e w3 ⟨rfl, g, r⟩
  rw [takeK, if_neg (by rw [h2]; decide)] at r
  rw [h2]
  have E3 := E2.take hr g r hk
  clear g r E2 h2
  go_wp2_with fail
  refine (take_any _ rb tb c l k bad _ E3.rd E3.kl hl).mono ?_
  rintro e w4 ⟨rfl, g, r⟩
  have hk1 := isM_lt hG hk h3 (by decide) (by decide)
  rw [takeK, if_pos h3] at r
  rw [h3]
  have E := E3.take hr g r hk1
  clear g r E3 h3
  obtain ⟨⟨x, n1, k1, b1⟩, q1, q2⟩ := Option.bind_eq_some_iff.1 HM.out
  obtain ⟨hk2, hok2⟩ := (tread_ok l hG n).1 _ _ _ _ _ _ _ q1 hk1 hok
  have H1 : Hid _ := q1
  have H2 : Hid _ := q2
  clear q1 q2 HM
  go_wp2_with fail
  refine (hA _ rb tb c (k + 1) bad nb B names x n1 k1 b1 E.rd E.kl E.nm hr ht hok H1.out).mono ?_
  rintro e wa ⟨p, rfl, hx, Ea⟩
  obtain ⟨pb, rfl⟩ := hx.ptr
  have E2 := E.trans Ea
  clear E Ea
  go_wp2_with fail
  refine (take_any _ rb tb c l k1 b1 _ E2.rd E2.kl hl).mono ?_
  rintro e wb ⟨rfl, g, r⟩
  have hx2 := TRep.keep (TKeep.rd E2.rd g) x hx
  by_cases hMa : isM l { data := #[44] } k1 b1 = true
  · rw [takeK, if_pos hMa] at r
    have hk3 := isM_lt hG hk2 hMa (by decide) (by decide)
    have E3 := E2.take hr g r hk3
    have q := H2.out
    simp only [hMa, if_true] at q
    obtain ⟨⟨y, n2, k3, b3⟩, q3, q4⟩ := Option.bind_eq_some_iff.1 q
    obtain ⟨hk4, hok4⟩ := (tread_ok l hG n).1 _ _ _ _ _ _ _ q3 hk3 hok2
    simp only [Option.some.injEq, Prod.mk.injEq] at q4
    obtain ⟨rfl, rfl, rfl, rfl⟩ := q4
    have H3 : Hid _ := q3
    rw [hMa]
    clear q q3 H1 H2 g r E2 hx hMa
    go_wp2_with fail
    refine (hA _ rb tb c (k1 + 1) b1 nb B n1 y n2 k3 b3 E3.rd E3.kl E3.nm hr ht hok2 H3.out).mono ?_
    rintro e wc ⟨p2, rfl, hy, Eb⟩
    obtain ⟨pb2, rfl⟩ := hy.ptr
    have hx3 := TRep.keep Eb.tk x hx2
    have E4 := E3.trans Eb
    have hp := tnode2 { data := #[112, 97, 105, 114] } hx3 hy
    have E5 := (E4.alloc (.cells #[.pointer (some ⟨pb, 0, none⟩), .pointer (some ⟨pb2, 0, none⟩)] 33)).alloc (.cells #[.string { data := #[112, 97, 105, 114] }, .int .i64 0, .slice (some ⟨wc.heap.size, 0, none⟩) 2 2] 104)
    clear E3 Eb E4 hx2 hy hx3
    go_wp2_with fail
    generalize (wc.alloc (.cells #[.pointer (some ⟨pb, 0, none⟩), .pointer (some ⟨pb2, 0, none⟩)] 33)).alloc (.cells #[.string { data := #[112, 97, 105, 114] }, .int .i64 0, .slice (some ⟨wc.heap.size, 0, none⟩) 2 2] 104) = wd at *
    refine (need_any _ rb tb c l k3 b3 _ E5.rd E5.kl hl).mono ?_
    rintro e we ⟨rfl, g, r⟩
    have hx5 := TRep.keep (TKeep.rd E5.rd g) _ hp
    have E6 := E5.take hr g r (takeK_lt hG hk4 (by decide) (by decide))
    go_wp2
    go_ret
    exact ⟨_, rfl, hx5, E6⟩
  · have hMf : isM l { data := #[44] } k1 b1 = false := by simpa using hMa
    rw [takeK, if_neg hMa] at r
    have E3 := E2.take hr g r hk2
    have q := H2.out
    simp only [hMf, Bool.false_eq_true, if_false, Option.some.injEq, Prod.mk.injEq] at q
    obtain ⟨rfl, rfl, rfl, rfl⟩ := q
    rw [hMf]
    clear H1 H2 g r E2 hx hMa hMf
    go_wp2_with fail
    refine (need_any _ rb tb c l k1 b1 _ E3.rd E3.kl hl).mono ?_
    rintro e we ⟨rfl, g, r⟩
    have hx5 := TRep.keep (TKeep.rd E3.rd g) _ hx2
    have E6 := E3.take hr g r (takeK_lt hG hk2 (by decide) (by decide))
    go_wp2
    go_ret
    exact ⟨_, rfl, hx5, E6⟩
end Go.Proofs.YtleenphlgbklmaaGreatDoor

namespace Go.Proofs.YtleenphlgbklmaaGreatDoor
open Go.RowKit

theorem row_form0 {w : World} {B : Nat} {e : TypeId} {z : Nat} {v : Value} {n : Nat} {xs : List Value} (h : w.ownsRow B e z v n xs) : ∃ ao cap, v = .slice ao n cap ∧ (0 < n → ∃ g, ao = some ⟨g, 0, none⟩) := by
  rcases h.2 with ⟨rfl, e⟩ | ⟨g, cap, cur, rfl, hb, _⟩
  · exact ⟨none, 0, by rw [e], fun hi => by omega⟩
  · exact ⟨some ⟨g, 0, none⟩, cap, rfl, fun _ => ⟨g, rfl⟩⟩

set_option maxRecDepth 20000 in
set_option maxHeartbeats 4000000 in
theorem one_name (l : List Tk) (hl : l.length ≤ 1000) (hG : Good l) (n : Nat) (hA : SArr l n) (w : World) (rb tb c k : Nat) (bad : Int) (nb B : Nat) (names : List ByteArray) (t : Ty) (names' : List ByteArray) (k' : Nat) (bad' : Int) (h : Rd w rb tb c l k bad) (hk : k < l.length) (hn : Nm w nb B names) (hr : rb < B) (ht : tb < B) (hok : NmOk l names) (h0 : isM l { data := #[105, 110, 116] } k bad = false) (h1 : isM l { data := #[98, 111, 111, 108] } k bad = false) (h2 : isM l { data := #[91] } k bad = false) (h3 : isM l { data := #[40] } k bad = false) (hM : oneM l (n + 1) names k bad = some (t, names', k', bad')) :
    Calls Tryz.prog 83 #[.pointer (some ⟨rb, 0, none⟩), .pointer (some ⟨nb, 0, none⟩)] w fun e w' => ∃ p, e = .returned p ∧ TRep w' t p ∧ TEnd w w' rb tb c l k' bad' nb B names' := by
  have E0 := TEnd.start h hk hn
  simp only [oneM, h0, h1, h2, h3, Bool.false_eq_true, if_false, if_true] at hM
  have HM : Hid _ := hM
  clear hM
  go_enter Tryz.func83, Tryz.ntmps83
  go_wp2_with fail
  refine (take_any _ rb tb c l k bad _ E0.rd E0.kl hl).mono ?_
  rintro e w1 ⟨rfl, g, r⟩
  rw [takeK, if_neg (by rw [h0]; decide)] at r
  rw [h0]
  have E1 := E0.take hr g r hk
  clear g r E0 h0
  go_wp2_with fail
  refine (take_any _ rb tb c l k bad _ E1.rd E1.kl hl).mono ?_
  rintro e w2 ⟨rfl, g, r⟩
  rw [takeK, if_neg (by rw [h1]; decide)] at r
  rw [h1]
  have E2 := E1.take hr g r hk
  clear g r E1 h1
  go_wp2_with fail
  refine (take_any _ rb tb c l k bad _ E2.rd E2.kl hl).mono ?_
  rintro e w3 ⟨rfl, g, r⟩
  rw [takeK, if_neg (by rw [h2]; decide)] at r
  rw [h2]
  have E3 := E2.take hr g r hk
  clear g r E2 h2
  go_wp2_with fail
  refine (take_any _ rb tb c l k bad _ E3.rd E3.kl hl).mono ?_
  rintro e w4 ⟨rfl, g, r⟩
  rw [takeK, if_neg (by rw [h3]; decide)] at r
  rw [h3]
  have E4 := E3.take hr g r hk
  clear g r E3 h3
  go_wp2_with fail
  refine (need_any _ rb tb c l k bad _ E4.rd E4.kl hl).mono ?_
  rintro e w5 ⟨rfl, g, r⟩
  have E5 := E4.take hr g r (takeK_lt hG hk (by decide) (by decide))
  have hok2 := hok.name hk
  clear g r E4
  have q := HM.out
  simp only [Option.some.injEq, Prod.mk.injEq] at q
  obtain ⟨q1, q2, rfl, rfl⟩ := q
  have hln := hok.len
  obtain ⟨s1, hs1⟩ : ∃ s1, s1 = (tkAt l k).s := ⟨_, rfl⟩
  rw [← hs1] at q1 q2 hok2 ⊢
  have HQ1 : Hid _ := q1
  have HQ2 : Hid _ := q2
  clear HM q1 q2 hs1 h hn
  obtain ⟨nv, hnb, hrow⟩ := E5.nm.ex
  have hlow := E5.nm.low
  obtain ⟨ao, cap, rfl, hao⟩ := row_form0 hrow
  have cn : w5.cell? ⟨nb, 0, none⟩ = some (.slice ao names.length cap) := by simp [World.cell?, hnb]
  have fn : w5.frozen? ⟨nb, 0, none⟩ = false := by simp [World.frozen?, hnb]
  go_wp2_with fail
  go_loop [56] (fun v => ∃ j : Nat, v = .int .i64 j ∧ j ≤ names.length ∧ ∀ i, i < j → sameS (names.getD i { data := #[] }) s1 = false) (fun v => names.length - (intOf v).toNat)
  case atStart => exact ⟨0, rfl, Nat.zero_le _, fun i hi => by omega⟩
  case round =>
    obtain ⟨j, rfl, hj, hno⟩ := hrel
    have HNO : Hid _ := hno
    clear hno
    by_cases hlt : j < names.length
    · obtain ⟨g, rfl⟩ := hao (by omega)
      have cm : w5.cell? ⟨g, j, none⟩ = some (.string (names.getD j { data := #[] })) := by
        have := hrow.cellAt j (by simpa using hlt)
        rw [this]
        simp [List.getD, hlt]
      have hsm : Hid (sameS (names.getD j { data := #[] }) s1 = ((names.getD j { data := #[] }).toList == s1.toList)) := by simp only [Hid, sameS, ByteArray.toList_eq]
      have HD : Hid (names.getD j { data := #[] } = names.getD j { data := #[] }) := rfl
      obtain ⟨m, hm⟩ : ∃ m, m = names.getD j { data := #[] } := ⟨_, rfl⟩
      rw [← hm] at cm hsm
      have HM : Hid _ := hm
      clear hm HD
      cases hmm : (m.toList == s1.toList)
      · have E : Hid (∀ i, i < j + 1 → sameS (names.getD i { data := #[] }) s1 = false) := by
          intro i hi
          by_cases e : i = j
          · subst e; rw [← HM.out, hsm.out, hmm]
          · exact HNO.out i (by omega)
        clear hsm HM HNO
        go_wp2
        go_round
        case rel => exact ⟨j + 1, by go_num, by omega, E.out⟩
        case measure => simp [intOf]; omega
      · have E : Hid (names.findIdx? (fun m => sameS m s1) = some j) := by
          show _ = _
          rw [List.findIdx?_eq_some_iff_getElem]
          refine ⟨hlt, ?_, ?_⟩
          · have h1 := hsm.out
            rw [hmm, HM.out] at h1
            simpa [List.getD, hlt] using h1
          · intro i hi
            have h1 := HNO.out i hi
            have : i < names.length := by omega
            simpa [List.getD, this] using h1
        clear hsm HM HNO
        go_wp2
        go_ret
        have q1 := HQ1.out
        have q2 := HQ2.out
        simp only [nameM, E.out] at q1 q2
        subst q1
        subst q2
        exact ⟨_, rfl, tleaf _ { data := #[] } j, E5.alloc _⟩
    · have hjk : j = names.length := by omega
      subst hjk
      have EN : Hid (names.findIdx? (fun m => sameS m s1) = none) := by
        show _ = _
        rw [List.findIdx?_eq_none_iff]
        intro x hx
        obtain ⟨i, hi, rfl⟩ := List.getElem_of_mem hx
        have h1 := HNO.out i hi
        simpa [List.getD, hi] using h1
      have hsz5 : B ≤ w5.heap.size := by have := lt_of_block hnb; omega
      clear HNO
      obtain ⟨i9, hi9, hz90, hz91, hz92⟩ := info_parts Tryz.info9
      go_wp2_with (at_builtin; refine wpList_append_own2 _ rfl (.tmp 71) (.tmp 73) 34 rfl B 9 i9 (.string { data := #[] }) 1 16 Tryz.underlying34 hi9 hz90 hz91 hz92 rfl (by decide) _ _ _ rfl (hrow.alloc _) ⟨w5.heap.size, 0, none⟩ 1 1 [.string s1] rfl rfl (fun q u hq => by match q, hq with | 0, hq => simp at hq; subst hq; simp [Addr.add]) (fun u hu => by simp at hu; subst hu; rfl) (by unfold maxLen; omega) (by omega) (by simp; omega) (by decide) ?_)
      intro g cap' w6 hown' hgrow hfr
      have hnn := row_ne hrow hnb (by decide)
      have hnl := lt_of_block hnb
      have hx6 : w6.heap[nb]? = w5.heap[nb]? := by rw [hgrow.block nb (by simp; omega) (Ne.symm hnn), Below.heap_alloc _ _ _ hnl]
      have x1 : w6.cell? ⟨nb, 0, none⟩ = some (.slice ao names.length cap) := (World.cell?_of_block (a := ⟨nb, 0, none⟩) hx6).trans cn
      have f1 : w6.frozen? ⟨nb, 0, none⟩ = false := (World.frozen?_of_block (a := ⟨nb, 0, none⟩) hx6).trans fn
      have kk : Kp (fun q => q = nb ∨ (Value.slice ao names.length cap).ownBlock = some q) w5 (w6.setCell ⟨nb, 0, none⟩ (.slice (some ⟨g, 0, none⟩) (names.length + 1) cap')) :=
        ((((Kp.refl _ w5).alloc _).grown hgrow (fun q e _ => Or.inr e)).setCell _ _ (fun _ => Or.inl rfl))
      have hgn : g ≠ nb := by
        rcases hfr with e | e
        · intro q; subst q; exact hnn e.symm
        · omega
      have nm6 : Nm (w6.setCell ⟨nb, 0, none⟩ (.slice (some ⟨g, 0, none⟩) (names.length + 1) cap')) nb B (names ++ [s1]) := by
        refine ⟨⟨.slice (some ⟨g, 0, none⟩) (names.length + 1) cap', ?_, ?_⟩, hlow⟩
        · simp [World.setCell, hx6, hnb, Array.getElem?_modify]
        · have := ownsRow_setCell_other hown' (a := ⟨nb, 0, none⟩) (by simp [Value.ownBlock, hgn]) (.slice (some ⟨g, 0, none⟩) (names.length + 1) cap')
          simpa using this
      have tk6 : TKeep w5 (w6.setCell ⟨nb, 0, none⟩ (.slice (some ⟨g, 0, none⟩) (names.length + 1) cap')) := TKeep.kp kk (fun q hq cs e f hc => by
        rcases hq with rfl | hq
        · rw [hnb] at hc; simp at hc; obtain ⟨_, rfl, _⟩ := hc; decide
        · rcases hrow.2 with ⟨h1, _⟩ | ⟨g0, cap0, cur0, h1, _, h3, _⟩
          · rw [h1] at hq; simp [Value.ownBlock] at hq
          · rw [h1] at hq
            simp only [Value.ownBlock] at hq
            obtain rfl := Option.some.inj hq
            rw [h3] at hc; simp at hc; obtain ⟨_, rfl, _⟩ := hc; decide)
      have E6 : TEnd w (w6.setCell ⟨nb, 0, none⟩ (.slice (some ⟨g, 0, none⟩) (names.length + 1) cap')) rb tb c l (takeK l { data := #[110, 97, 109, 101] } k bad) (needB l { data := #[110, 97, 109, 101] } k bad) nb B (names ++ [s1]) := by
        have kB : Kp (fun q => B ≤ q) w5 (w6.setCell ⟨nb, 0, none⟩ (.slice (some ⟨g, 0, none⟩) (names.length + 1) cap')) := kk.mono (fun q _ e => by
          rcases e with rfl | e
          · exact hlow
          · exact (hrow.lt q e).1)
        exact ⟨E5.kp.trans (kB.mono fun q _ e => Or.inr e), E5.tk.trans tk6, E5.rd.kp kB (by show ¬ B ≤ rb; omega) (by show ¬ B ≤ tb; omega), E5.kl, nm6⟩
      clear kk tk6 hown' hgrow hfr hx6 E5 hrow hnb cn fn
      have hq := nm6.ex
      have y1 : (w6.setCell ⟨nb, 0, none⟩ (.slice (some ⟨g, 0, none⟩) (names.length + 1) cap')).cell? ⟨nb, 0, none⟩ = some (.slice (some ⟨g, 0, none⟩) (names.length + 1) cap') := World.cell?_setCell_same _ _ _ x1
      have hsz7 : (w6.setCell ⟨nb, 0, none⟩ (.slice (some ⟨g, 0, none⟩) (names.length + 1) cap')).heap.size = w6.heap.size := by simp
      clear hq
      go_wp2_with fail
      generalize w6.setCell ⟨nb, 0, none⟩ (.slice (some ⟨g, 0, none⟩) (names.length + 1) cap') = w7 at *
      clear x1 f1
      go_wp2
      go_ret
      have q1 := HQ1.out
      have q2 := HQ2.out
      simp only [nameM, EN.out] at q1 q2
      subst q1
      subst q2
      have L := tleaf w7 { data := #[] } names.length
      rw [hsz7] at L
      exact ⟨_, rfl, L, E6.alloc _⟩
end Go.Proofs.YtleenphlgbklmaaGreatDoor
