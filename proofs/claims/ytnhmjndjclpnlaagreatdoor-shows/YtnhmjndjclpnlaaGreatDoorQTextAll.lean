import Derived.Test.YtnhmjndjclpnlaaGreatDoorQWText
set_option linter.unusedVariables false
set_option linter.unusedSimpArgs false
namespace Go.Proofs.YtnhmjndjclpnlaaGreatDoor
open Go.RowKit

theorem Rep.form {w : World} {x : X} {v : Value} {fs : List Nat} (h : Rep w x v fs) : ∃ b, v = .pointer (some ⟨b, 0, none⟩) ∧ w.cell? ⟨b, 0, none⟩ = some (.string x.op) := by
  cases x with
  | mk op names kids loc =>
    simp only [Rep] at h
    obtain ⟨b, nv, lv, ps, fk, h1, h2, _⟩ := h
    exact ⟨b, h1, by simp [World.cell?, h2, X.op]⟩

theorem needsF_cases (o : ByteArray) : (needsF o = false ∧ (o.toList == [102, 117, 110]) = false ∧ (o.toList == [105, 102]) = false ∧ (o.toList == [108, 101, 116]) = false ∧ (o.toList == [114, 101, 99]) = false) ∨
    (needsF o = true ∧ (o.toList == [102, 117, 110]) = true) ∨ (needsF o = true ∧ (o.toList == [102, 117, 110]) = false ∧ (o.toList == [105, 102]) = true) ∨
    (needsF o = true ∧ (o.toList == [102, 117, 110]) = false ∧ (o.toList == [105, 102]) = false ∧ (o.toList == [108, 101, 116]) = true) ∨
    (needsF o = true ∧ (o.toList == [102, 117, 110]) = false ∧ (o.toList == [105, 102]) = false ∧ (o.toList == [108, 101, 116]) = false ∧ (o.toList == [114, 101, 99]) = true) := by
  simp only [needsF, ByteArray.toList_eq]
  cases (o.data.toList == [102, 117, 110]) <;> cases (o.data.toList == [105, 102]) <;> cases (o.data.toList == [108, 101, 116]) <;> cases (o.data.toList == [114, 101, 99]) <;> simp
theorem needsA_cases (o : ByteArray) : (needsA o = true ∧ (o.toList == [110, 97, 109, 101]) = false ∧ (o.toList == [110, 117, 109]) = false ∧ (o.toList == [112, 97, 105, 114]) = false) ∨
    (needsA o = false ∧ (o.toList == [110, 97, 109, 101]) = true) ∨ (needsA o = false ∧ (o.toList == [110, 97, 109, 101]) = false ∧ (o.toList == [110, 117, 109]) = true) ∨
    (needsA o = false ∧ (o.toList == [110, 97, 109, 101]) = false ∧ (o.toList == [110, 117, 109]) = false ∧ (o.toList == [112, 97, 105, 114]) = true) := by
  simp only [needsA, ByteArray.toList_eq]
  cases (o.data.toList == [110, 97, 109, 101]) <;> cases (o.data.toList == [110, 117, 109]) <;> cases (o.data.toList == [112, 97, 105, 114]) <;> simp

set_option maxRecDepth 20000 in
set_option maxHeartbeats 8000000 in
theorem text_app (a a2 : X) (loc : Nat) (ih : SText a) (ih2 : SText a2) : SText (.mk { data := #[97, 112, 112] } [] [a, a2] loc) := by
  intro w v fs hr hwf ht
  obtain ⟨hwa, hwa2⟩ : WF a ∧ WF a2 := by
    cases hwf with
    | app _ _ _ h h2 => exact ⟨h, h2⟩
    | lt _ _ _ _ h _ _ _ => rcases h with h | h <;> exact absurd h (by decide)
  simp only [Rep, Reps] at hr
  obtain ⟨b, nv, lv, ps, fk, rfl, h2, _, h4, ⟨p, qs, f1, f2, rfl, hra, ⟨p2, qs2, f3, f4, rfl, hra2, ⟨rfl, rfl⟩, rfl⟩, rfl⟩, _⟩ := hr
  obtain ⟨ao2, cap2, rfl, hrow2⟩ := row_form h4
  obtain ⟨g2, rfl, hc2⟩ := hrow2 0 (by simp)
  obtain ⟨g2', e, hc3⟩ := hrow2 1 (by simp)
  obtain rfl : g2 = g2' := by injection e with e; injection e
  have c0 : w.cell? ⟨b, 0, none⟩ = some (.string { data := #[97, 112, 112] }) := by simp [World.cell?, h2]
  have c2 : w.cell? ⟨b, 2, none⟩ = some (.slice (some ⟨g2, 0, none⟩) 2 cap2) := by simp [World.cell?, h2]
  simp at hc2 hc3
  simp [tw, tws] at ht
  have sz := txt_size a hwa
  have sz2 := txt_size a2 hwa2
  have ha := ih.at hra hwa (by omega)
  have ha2 := ih2.at hra2 hwa2 (by omega)
  have e1 : Hid (txt (.mk { data := #[97, 112, 112] } [] [a, a2] loc) = brk (needsF a.op) (txt a) ++ { data := #[32] } ++ brk (needsA a2.op) (txt a2)) := by simp [Hid, txt, txts]
  have s1 : (txt a).size ≤ 1000000 := by omega
  have s2 : (txt a2).size ≤ 1000000 := by omega
  obtain ⟨b1, rfl, o1⟩ := hra.form
  obtain ⟨b2, rfl, o2⟩ := hra2.form
  generalize txt a = ta at *
  generalize txt a2 = ta2 at *
  have q1 := needsF_cases a.op
  have q2 := needsA_cases a2.op
  generalize a.op = oa at *
  generalize a2.op = ob at *
  clear h2 h4 hrow2 ih hra hwa hwf sz ht ih2 hra2 hwa2 sz2 e
  have HA : Hid (∀ n : Nat, Calls Tryz.prog 15 #[.pointer (some ⟨b1, 0, none⟩)] (w.drewN n) fun e w' => e = .returned (.string ta) ∧ ∃ m, w' = (w.drewN n).drewN m) := ha
  have HA2 : Hid (∀ n : Nat, Calls Tryz.prog 15 #[.pointer (some ⟨b2, 0, none⟩)] (w.drewN n) fun e w' => e = .returned (.string ta2) ∧ ∃ m, w' = (w.drewN n).drewN m) := ha2
  have Q2 : Hid _ := q2
  clear ha ha2 q2
  go_enter Tryz.func15, Tryz.ntmps15
  go_wp2_with fail
  refine Calls.mono (HA.out 0) ?_
  rintro e w1 ⟨rfl, m1, rfl⟩
  rcases q1 with ⟨n1, t1, t2, t3, t4⟩ | ⟨n1, t1⟩ | ⟨n1, t1, t2⟩ | ⟨n1, t1, t2, t3⟩ | ⟨n1, t1, t2, t3, t4⟩
  all_goals
    have N1 : Hid _ := n1
    clear n1
    go_wp2_with fail
    refine Calls.mono (HA2.out _) ?_
    rintro e w2 ⟨rfl, m2, rfl⟩
    try clear t1
    try clear t2
    try clear t3
    try clear t4
    rcases Q2.out with ⟨n2, t1, t2, t3⟩ | ⟨n2, t1⟩ | ⟨n2, t1, t2⟩ | ⟨n2, t1, t2, t3⟩
    all_goals
      have N2 : Hid _ := n2
      clear n2
      go_wp2
      go_ret
      exact ⟨ret_str (by rw [e1.out, N1.out, N2.out]; rfl), _, rfl⟩
end Go.Proofs.YtnhmjndjclpnlaaGreatDoor

namespace Go.Proofs.YtnhmjndjclpnlaaGreatDoor
open Go.RowKit

theorem len_le_sum (ns : List ByteArray) : ns.length ≤ (ns.map fun s => s.size + 16).sum := by
  induction ns with
  | nil => simp
  | cons a ns ih => simp only [List.length_cons, List.map_cons, List.sum_cons]; omega

theorem strs_form {w : World} {B : Nat} {v : Value} {names : List ByteArray} (h : w.ownsRow B 9 1 v names.length (names.map Value.string)) :
    ∃ ao cap, v = .slice ao names.length cap ∧ ∀ i, i < names.length → ∃ g, ao = some ⟨g, 0, none⟩ ∧ w.cell? ⟨g, i, none⟩ = some (.string (names.getD i { data := #[] })) := by
  have h' : w.ownsRow B 9 1 v (names.map Value.string).length (names.map Value.string) := by simpa using h
  obtain ⟨ao, cap, rfl, hr⟩ := row_form h'
  refine ⟨ao, cap, by simp, fun i hi => ?_⟩
  obtain ⟨g, rfl, hc⟩ := hr i (by simpa using hi)
  exact ⟨g, rfl, by rw [hc]; simp [hi]⟩

set_option maxRecDepth 20000 in
set_option maxHeartbeats 8000000 in
theorem text_let (op : ByteArray) (names : List ByteArray) (kids : List X) (loc : Nat) (hop : op = { data := #[108, 101, 116] } ∨ op = { data := #[114, 101, 99] }) (hkl : kids.length = names.length + 1) (h1 : names ≠ []) (ih : ∀ a, a ∈ kids → SText a) (hwk : ∀ a, a ∈ kids → WF a) : SText (.mk op names kids loc) := by
  intro w v fs hr _ ht
  simp only [Rep] at hr
  obtain ⟨b, nv, lv, ps, fk, rfl, h2, h3, h4, h5, _⟩ := hr
  obtain ⟨ao, cap, rfl, hrow⟩ := strs_form h3
  obtain ⟨ao2, cap2, rfl, hrow2⟩ := row_form h4
  have hpl := h5.len
  have hn0 : 0 < names.length := by cases names with | nil => exact absurd rfl h1 | cons _ _ => simp
  obtain ⟨g, rfl, _⟩ := hrow 0 hn0
  obtain ⟨g2, rfl, _⟩ := hrow2 0 (by omega)
  have hnc : ∀ i, i < names.length → w.cell? ⟨g, i, none⟩ = some (.string (names.getD i { data := #[] })) := fun i hi => by
    obtain ⟨g', e, hc⟩ := hrow i hi
    obtain rfl : g = g' := by injection e with e; injection e
    exact hc
  have hkc : ∀ i, i < names.length + 1 → w.cell? ⟨g2, i, none⟩ = some (ps.getD i (.pointer none)) := fun i hi => by
    obtain ⟨g', e, hc⟩ := hrow2 i (by omega)
    obtain rfl : g2 = g' := by injection e with e; injection e
    rw [hc]
    have : i < ps.length := by omega
    simp [List.getD, this]
  have c0 : w.cell? ⟨b, 0, none⟩ = some (.string op) := by simp [World.cell?, h2]
  have c1 : w.cell? ⟨b, 1, none⟩ = some (.slice (some ⟨g, 0, none⟩) names.length cap) := by simp [World.cell?, h2]
  have c2 : w.cell? ⟨b, 2, none⟩ = some (.slice (some ⟨g2, 0, none⟩) (names.length + 1) cap2) := by simp [World.cell?, h2, hpl, hkl]
  simp only [tw] at ht
  have hsz : ∀ y, y ∈ kids → (txt y).size ≤ tw y := fun y hy => txt_size y (hwk y hy)
  have hcall : ∀ i, i < names.length + 1 → ∀ n : Nat, Calls Tryz.prog 15 #[ps.getD i (.pointer none)] (w.drewN n) fun e w' => e = .returned (.string ((txts kids).getD i { data := #[] })) ∧ ∃ m, w' = (w.drewN n).drewN m := fun i hi n => by
    have hi' : i < kids.length := by omega
    have hm := getD_mem (xs := kids) (q := i) hi'
    obtain ⟨f, hf, _⟩ := h5.get i hi'
    rw [txts_get kids i hi']
    exact (ih _ hm).at hf (hwk _ hm) (by have := tws_get hm; omega) n
  have hts : ∀ i, i < names.length + 1 → ((txts kids).getD i { data := #[] }).size ≤ 1000000 := fun i hi => by
    have hi' : i < kids.length := by omega
    have hm := getD_mem (xs := kids) (q := i) hi'
    rw [txts_get kids i hi']
    have := hsz _ hm
    have := tws_get hm
    omega
  have hns : ∀ i, i < names.length → (names.getD i { data := #[] }).size ≤ 1000000 := fun i hi => by have := names_get hi; omega
  have hlet : ∀ s0 : ByteArray, s0.size ≤ 8 → ∀ q, q ≤ names.length → (letT s0 names (txts kids) q).size ≤ 2000000 := fun s0 hs q hq => by
    have := letT_size s0 names kids hsz q hq (by omega)
    have := sum_take names q
    have := tws_take kids q
    omega
  have hnl : names.length ≤ 1000000 := by
    have := len_le_sum names
    omega
  have HC : Hid _ := hcall
  obtain ⟨s0, hs0, hs08, hs0t⟩ : ∃ s0 : ByteArray, s0 = (if op = { data := #[114, 101, 99] } then { data := #[108, 101, 116, 32] } ++ { data := #[114, 101, 99, 32] } else { data := #[108, 101, 116, 32] }) ∧ s0.size ≤ 8 ∧ txt (.mk op names kids loc) = letT s0 names (txts kids) names.length ++ { data := #[32, 105, 110, 32] } ++ (txts kids).getD names.length { data := #[] } := by
    refine ⟨_, rfl, ?_, ?_⟩
    · rcases hop with rfl | rfl
      · decide
      · decide
    · rcases hop with rfl | rfl
      · simp [txt]
      · simp [txt]
  have hl2 := hlet s0 hs08
  have E1 : Hid _ := hs0t
  clear hlet hsz hcall hs0t h2 h3 h4 h5 hrow hrow2 ht ih hwk hpl hkl h1
  generalize txts kids = ts at *
  have HS : Hid (s0 = (if op = { data := #[114, 101, 99] } then { data := #[108, 101, 116, 32] } ++ { data := #[114, 101, 99, 32] } else { data := #[108, 101, 116, 32] })) := hs0
  clear hs0
  rcases hop with rfl | rfl
  all_goals
    go_enter Tryz.func15, Tryz.ntmps15
    go_wp2
    have c1b := c1
    clear c0 c1
    go_loopw [7, 169] (fun sv i wr => ∃ q : Nat, q ≤ names.length ∧ i = .int .i64 q ∧ sv = .string (letT s0 names ts q) ∧ ∃ n, wr = w.drewN n) (fun _ i _ => names.length - (intOf i).toNat)
    case atStart => exact ⟨0, Nat.zero_le _, rfl, by rw [letT, HS.out]; rfl, 0, rfl⟩
    case round =>
      obtain ⟨q, hq, rfl, rfl, n, rfl⟩ := hrel
      by_cases hlt : q < names.length
      · have n1 := hnc q hlt
        have k1 := hkc q (by omega)
        have z1 := hns q hlt
        have z2 := hts q (by omega)
        have z3 := hl2 q hq
        have CQ : Hid (∀ n : Nat, Calls Tryz.prog 15 #[ps.getD q (.pointer none)] (w.drewN n) fun e w' => e = .returned (.string (ts.getD q { data := #[] })) ∧ ∃ m, w' = (w.drewN n).drewN m) := HC.out q (by omega)
        have ST : Hid (letT s0 names ts (q + 1) = (if 0 < q then letT s0 names ts q ++ { data := #[32, 97, 110, 100, 32] } else letT s0 names ts q) ++ (names.getD q { data := #[] } ++ { data := #[32, 61, 32] } ++ ts.getD q { data := #[] })) := rfl
        generalize letT s0 names ts q = l0 at *
        generalize names.getD q { data := #[] } = nq at *
        generalize ts.getD q { data := #[] } = tq at *
        generalize ps.getD q (.pointer none) = pq at *
        clear hnc hkc hns hts hl2 HC
        by_cases hq0 : 0 < q
        · have E2 : Hid (letT s0 names ts (q + 1) = l0 ++ { data := #[32, 97, 110, 100, 32] } ++ (nq ++ { data := #[32, 61, 32] } ++ tq)) := by show _ = _; rw [ST.out, if_pos hq0]
          clear ST
          go_wp2_with fail
          refine Calls.mono (CQ.out _) ?_
          rintro e w1 ⟨rfl, m1, rfl⟩
          go_wp2
          go_roundw
          case rel => exact ⟨q + 1, by omega, by go_num, congrArg Value.string E2.out.symm, _, rfl⟩
          case measure => simp [intOf]; omega
        · have E2 : Hid (letT s0 names ts (q + 1) = l0 ++ (nq ++ { data := #[32, 61, 32] } ++ tq)) := by show _ = _; rw [ST.out, if_neg hq0]
          clear ST
          go_wp2_with fail
          refine Calls.mono (CQ.out _) ?_
          rintro e w1 ⟨rfl, m1, rfl⟩
          go_wp2
          go_roundw
          case rel => exact ⟨q + 1, by omega, by go_num, congrArg Value.string E2.out.symm, _, rfl⟩
          case measure => simp [intOf]; omega
      · have hql : q = names.length := by omega
        subst hql
        have k1 := hkc names.length (by omega)
        have z2 := hts names.length (by omega)
        have z3 := hl2 names.length (by omega)
        have CQ : Hid (∀ n : Nat, Calls Tryz.prog 15 #[ps.getD names.length (.pointer none)] (w.drewN n) fun e w' => e = .returned (.string (ts.getD names.length { data := #[] })) ∧ ∃ m, w' = (w.drewN n).drewN m) := HC.out names.length (by omega)
        clear hnc hkc hns hts hl2 HC
        generalize letT s0 names ts names.length = l0 at *
        generalize ts.getD names.length { data := #[] } = tq at *
        generalize ps.getD names.length (.pointer none) = pq at *
        have k2 : (names.length : Int) < (names.length : Int) + 1 := by omega
        have d1 : (w.drewN n).cell? ⟨b, 1, none⟩ = some (.slice (some ⟨g, 0, none⟩) names.length cap) := c1b
        have d2 : (w.drewN n).cell? ⟨b, 2, none⟩ = some (.slice (some ⟨g2, 0, none⟩) (names.length + 1) cap2) := c2
        have d3 : (w.drewN n).cell? ⟨g2, names.length, none⟩ = some pq := k1
        have CW : Hid (∀ m : Nat, Calls Tryz.prog 15 #[pq] ((w.drewN n).drewN m) fun e w' => e = .returned (.string tq) ∧ ∃ j, w' = ((w.drewN n).drewN m).drewN j) := fun m => by rw [World.drewN_drewN]; exact CQ.out (n + m)
        obtain ⟨W, hW⟩ : ∃ W, W = w.drewN n := ⟨_, rfl⟩
        have HW : Hid (W = w.drewN n) := hW
        rw [← hW] at d1 d2 d3 CW ⊢
        clear hW c1b c2 k1 CQ
        go_wp2
        go_quiet ((go_at_call 15; exact Calls.quiet_of (CW.out _)))
        go_wp2
        go_ret
        exact ⟨ret_str E1.out.symm, by rw [HW.out]; exact ⟨_, World.drewN_drewN _ _ _⟩⟩
end Go.Proofs.YtnhmjndjclpnlaaGreatDoor

namespace Go.Proofs.YtnhmjndjclpnlaaGreatDoor

theorem text_any (x : X) : SText x := by
  induction x using X.ind with
  | h op names kids loc ih =>
    intro w v fs hr hwf ht
    cases hwf with
    | leaf _ n _ h => exact text_leaf op n loc h w v fs hr (.leaf op n loc h) ht
    | fn n a _ ha => exact text_fun n a loc (ih a (by simp)) w v fs hr (.fn n a loc ha) ht
    | pair a b _ ha hb => exact text_pair a b loc (ih a (by simp)) (ih b (by simp)) w v fs hr (.pair a b loc ha hb) ht
    | ite a b c _ ha hb hc => exact text_if a b c loc (ih a (by simp)) (ih b (by simp)) (ih c (by simp)) w v fs hr (.ite a b c loc ha hb hc) ht
    | app a b _ ha hb => exact text_app a b loc (ih a (by simp)) (ih b (by simp)) w v fs hr (.app a b loc ha hb) ht
    | lt _ _ _ _ h hl h1 hk => exact text_let op names kids loc h hl h1 ih hk w v fs hr (.lt op names kids loc h hl h1 hk) ht
end Go.Proofs.YtnhmjndjclpnlaaGreatDoor
