import Derived.Test.YtnhmjndjclpnlaaGreatDoorQWOne
import Derived.Test.YtnhmjndjclpnlaaGreatDoorQWFun
set_option linter.unusedVariables false
set_option linter.unusedSimpArgs false
namespace Go.Proofs.YtnhmjndjclpnlaaGreatDoor
open Go.RowKit

theorem row_form0 {w : World} {B : Nat} {e : TypeId} {z : Nat} {v : Value} {n : Nat} {xs : List Value} (h : w.ownsRow B e z v n xs) : ∃ ao cap, v = .slice ao n cap ∧ (0 < n → ∃ g, ao = some ⟨g, 0, none⟩) := by
  rcases h.2 with ⟨rfl, e⟩ | ⟨g, cap, cur, rfl, hb, _⟩
  · exact ⟨none, 0, by rw [e], fun hi => by omega⟩
  · exact ⟨some ⟨g, 0, none⟩, cap, rfl, fun _ => ⟨g, rfl⟩⟩

set_option maxRecDepth 20000 in
set_option maxHeartbeats 4000000 in
theorem one_name (l : List Tk) (hl : l.length ≤ 1000) (hG : Good l) (n : Nat) (hA : SArr l n) (w : World) (rb tb c k : Nat) (bad : Int) (nb B : Nat) (names : List ByteArray) (t : Ty) (names' : List ByteArray) (k' : Nat) (bad' : Int) (h : Rd w rb tb c l k bad) (hk : k < l.length) (hn : Nm w nb B names) (hr : rb < B) (ht : tb < B) (hok : NmOk l names) (h0 : isM l { data := #[105, 110, 116] } k bad = false) (h1 : isM l { data := #[98, 111, 111, 108] } k bad = false) (h2 : isM l { data := #[91] } k bad = false) (h3 : isM l { data := #[40] } k bad = false) (hM : oneM l (n + 1) names k bad = some (t, names', k', bad')) :
    Calls Tryz.prog 74 #[.pointer (some ⟨rb, 0, none⟩), .pointer (some ⟨nb, 0, none⟩)] w fun e w' => ∃ p, e = .returned p ∧ TRep w' t p ∧ TEnd w w' rb tb c l k' bad' nb B names' := by
  have E0 := TEnd.start h hk hn
  simp only [oneM, h0, h1, h2, h3, Bool.false_eq_true, if_false, if_true] at hM
  have HM : Hid _ := hM
  clear hM
  go_enter Tryz.func74, Tryz.ntmps74
  go_wp2_with fail
  refine (take_any _ rb tb c l k bad _ E0.rd E0.kl hl).mono ?_
  rintro e w1 ⟨rfl, g, r⟩
  rw [takeK, if_neg (by rw [h0]; decide)] at r
  rw [h0]
  have E1 := E0.take hr g r hk
  clear g r E0 h0
  go_wp2_with fail
  refine (take_any _ rb tb c l k bad _ E1.rd E1.kl hl).mono ?_
  rintro e w2 ⟨rfl, g, r⟩
  rw [takeK, if_neg (by rw [h1]; decide)] at r
  rw [h1]
  have E2 := E1.take hr g r hk
  clear g r E1 h1
  go_wp2_with fail
  refine (take_any _ rb tb c l k bad _ E2.rd E2.kl hl).mono ?_
  rintro e w3 ⟨rfl, g, r⟩
  rw [takeK, if_neg (by rw [h2]; decide)] at r
  rw [h2]
  have E3 := E2.take hr g r hk
  clear g r E2 h2
  go_wp2_with fail
  refine (take_any _ rb tb c l k bad _ E3.rd E3.kl hl).mono ?_
  rintro e w4 ⟨rfl, g, r⟩
  rw [takeK, if_neg (by rw [h3]; decide)] at r
  rw [h3]
  have E4 := E3.take hr g r hk
  clear g r E3 h3
  go_wp2_with fail
  refine (need_any _ rb tb c l k bad _ E4.rd E4.kl hl).mono ?_
  rintro e w5 ⟨rfl, g, r⟩
  have E5 := E4.take hr g r (takeK_lt hG hk (by decide) (by decide))
  have hok2 := hok.name hk
  clear g r E4
  have q := HM.out
  simp only [Option.some.injEq, Prod.mk.injEq] at q
  obtain ⟨q1, q2, rfl, rfl⟩ := q
  have hln := hok.len
  obtain ⟨s1, hs1⟩ : ∃ s1, s1 = (tkAt l k).s := ⟨_, rfl⟩
  rw [← hs1] at q1 q2 hok2 ⊢
  have HQ1 : Hid _ := q1
  have HQ2 : Hid _ := q2
  clear HM q1 q2 hs1 h hn
  obtain ⟨nv, hnb, hrow⟩ := E5.nm.ex
  have hlow := E5.nm.low
  obtain ⟨ao, cap, rfl, hao⟩ := row_form0 hrow
  have cn : w5.cell? ⟨nb, 0, none⟩ = some (.slice ao names.length cap) := by simp [World.cell?, hnb]
  have fn : w5.frozen? ⟨nb, 0, none⟩ = false := by simp [World.frozen?, hnb]
  go_wp2_with fail
  go_loop [56] (fun v => ∃ j : Nat, v = .int .i64 j ∧ j ≤ names.length ∧ ∀ i, i < j → sameS (names.getD i { data := #[] }) s1 = false) (fun v => names.length - (intOf v).toNat)
  case atStart => exact ⟨0, rfl, Nat.zero_le _, fun i hi => by omega⟩
  case round =>
    obtain ⟨j, rfl, hj, hno⟩ := hrel
    have HNO : Hid _ := hno
    clear hno
    by_cases hlt : j < names.length
    · obtain ⟨g, rfl⟩ := hao (by omega)
      have cm : w5.cell? ⟨g, j, none⟩ = some (.string (names.getD j { data := #[] })) := by
        have := hrow.cellAt j (by simpa using hlt)
        rw [this]
        simp [List.getD, hlt]
      have hsm : Hid (sameS (names.getD j { data := #[] }) s1 = ((names.getD j { data := #[] }).toList == s1.toList)) := by simp only [Hid, sameS, ByteArray.toList_eq]
      have HD : Hid (names.getD j { data := #[] } = names.getD j { data := #[] }) := rfl
      obtain ⟨m, hm⟩ : ∃ m, m = names.getD j { data := #[] } := ⟨_, rfl⟩
      rw [← hm] at cm hsm
      have HM : Hid _ := hm
      clear hm HD
      cases hmm : (m.toList == s1.toList)
      · have E : Hid (∀ i, i < j + 1 → sameS (names.getD i { data := #[] }) s1 = false) := by
          intro i hi
          by_cases e : i = j
          · subst e; rw [← HM.out, hsm.out, hmm]
          · exact HNO.out i (by omega)
        clear hsm HM HNO
        go_wp2
        go_round
        case rel => exact ⟨j + 1, by go_num, by omega, E.out⟩
        case measure => simp [intOf]; omega
      · have E : Hid (names.findIdx? (fun m => sameS m s1) = some j) := by
          show _ = _
          rw [List.findIdx?_eq_some_iff_getElem]
          refine ⟨hlt, ?_, ?_⟩
          · have h1 := hsm.out
            rw [hmm, HM.out] at h1
            simpa [List.getD, hlt] using h1
          · intro i hi
            have h1 := HNO.out i hi
            have : i < names.length := by omega
            simpa [List.getD, this] using h1
        clear hsm HM HNO
        go_wp2
        go_ret
        have q1 := HQ1.out
        have q2 := HQ2.out
        simp only [nameM, E.out] at q1 q2
        subst q1
        subst q2
        exact ⟨_, rfl, tleaf _ { data := #[] } j, E5.alloc _⟩
    · have hjk : j = names.length := by omega
      subst hjk
      have EN : Hid (names.findIdx? (fun m => sameS m s1) = none) := by
        show _ = _
        rw [List.findIdx?_eq_none_iff]
        intro x hx
        obtain ⟨i, hi, rfl⟩ := List.getElem_of_mem hx
        have h1 := HNO.out i hi
        simpa [List.getD, hi] using h1
      have hsz5 : B ≤ w5.heap.size := by have := lt_of_block hnb; omega
      clear HNO
      obtain ⟨i9, hi9, hz90, hz91, hz92⟩ := info_parts Tryz.info9
      go_wp2_with (at_builtin; refine wpList_append_own2 _ rfl (.tmp 71) (.tmp 73) 34 rfl B 9 i9 (.string { data := #[] }) 1 16 Tryz.underlying34 hi9 hz90 hz91 hz92 rfl (by decide) _ _ _ rfl (hrow.alloc _) ⟨w5.heap.size, 0, none⟩ 1 1 [.string s1] rfl rfl (fun q u hq => by match q, hq with | 0, hq => simp at hq; subst hq; simp [Addr.add]) (fun u hu => by simp at hu; subst hu; rfl) (by unfold maxLen; omega) (by omega) (by simp; omega) (by decide) ?_)
      intro g cap' w6 hown' hgrow hfr
      have hnn := row_ne hrow hnb (by decide)
      have hnl := lt_of_block hnb
      have hx6 : w6.heap[nb]? = w5.heap[nb]? := by rw [hgrow.block nb (by simp; omega) (Ne.symm hnn), Below.heap_alloc _ _ _ hnl]
      have x1 : w6.cell? ⟨nb, 0, none⟩ = some (.slice ao names.length cap) := (World.cell?_of_block (a := ⟨nb, 0, none⟩) hx6).trans cn
      have f1 : w6.frozen? ⟨nb, 0, none⟩ = false := (World.frozen?_of_block (a := ⟨nb, 0, none⟩) hx6).trans fn
      have kk : Kp (fun q => q = nb ∨ (Value.slice ao names.length cap).ownBlock = some q) w5 (w6.setCell ⟨nb, 0, none⟩ (.slice (some ⟨g, 0, none⟩) (names.length + 1) cap')) :=
        ((((Kp.refl _ w5).alloc _).grown hgrow (fun q e _ => Or.inr e)).setCell _ _ (fun _ => Or.inl rfl))
      have hgn : g ≠ nb := by
        rcases hfr with e | e
        · intro q; subst q; exact hnn e.symm
        · omega
      have nm6 : Nm (w6.setCell ⟨nb, 0, none⟩ (.slice (some ⟨g, 0, none⟩) (names.length + 1) cap')) nb B (names ++ [s1]) := by
        refine ⟨⟨.slice (some ⟨g, 0, none⟩) (names.length + 1) cap', ?_, ?_⟩, hlow⟩
        · simp [World.setCell, hx6, hnb, Array.getElem?_modify]
        · have := ownsRow_setCell_other hown' (a := ⟨nb, 0, none⟩) (by simp [Value.ownBlock, hgn]) (.slice (some ⟨g, 0, none⟩) (names.length + 1) cap')
          simpa using this
      have tk6 : TKeep w5 (w6.setCell ⟨nb, 0, none⟩ (.slice (some ⟨g, 0, none⟩) (names.length + 1) cap')) := TKeep.kp kk (fun q hq cs e f hc => by
        rcases hq with rfl | hq
        · rw [hnb] at hc; simp at hc; obtain ⟨_, rfl, _⟩ := hc; decide
        · rcases hrow.2 with ⟨h1, _⟩ | ⟨g0, cap0, cur0, h1, _, h3, _⟩
          · rw [h1] at hq; simp [Value.ownBlock] at hq
          · rw [h1] at hq
            simp only [Value.ownBlock] at hq
            obtain rfl := Option.some.inj hq
            rw [h3] at hc; simp at hc; obtain ⟨_, rfl, _⟩ := hc; decide)
      have E6 : TEnd w (w6.setCell ⟨nb, 0, none⟩ (.slice (some ⟨g, 0, none⟩) (names.length + 1) cap')) rb tb c l (takeK l { data := #[110, 97, 109, 101] } k bad) (needB l { data := #[110, 97, 109, 101] } k bad) nb B (names ++ [s1]) := by
        have kB : Kp (fun q => B ≤ q) w5 (w6.setCell ⟨nb, 0, none⟩ (.slice (some ⟨g, 0, none⟩) (names.length + 1) cap')) := kk.mono (fun q _ e => by
          rcases e with rfl | e
          · exact hlow
          · exact (hrow.lt q e).1)
        exact ⟨E5.kp.trans (kB.mono fun q _ e => Or.inr e), E5.tk.trans tk6, E5.rd.kp kB (by show ¬ B ≤ rb; omega) (by show ¬ B ≤ tb; omega), E5.kl, nm6⟩
      clear kk tk6 hown' hgrow hfr hx6 E5 hrow hnb cn fn
      have hq := nm6.ex
      have y1 : (w6.setCell ⟨nb, 0, none⟩ (.slice (some ⟨g, 0, none⟩) (names.length + 1) cap')).cell? ⟨nb, 0, none⟩ = some (.slice (some ⟨g, 0, none⟩) (names.length + 1) cap') := World.cell?_setCell_same _ _ _ x1
      have hsz7 : (w6.setCell ⟨nb, 0, none⟩ (.slice (some ⟨g, 0, none⟩) (names.length + 1) cap')).heap.size = w6.heap.size := by simp
      clear hq
      go_wp2_with fail
      generalize w6.setCell ⟨nb, 0, none⟩ (.slice (some ⟨g, 0, none⟩) (names.length + 1) cap') = w7 at *
      clear x1 f1
      go_wp2
      go_ret
      have q1 := HQ1.out
      have q2 := HQ2.out
      simp only [nameM, EN.out] at q1 q2
      subst q1
      subst q2
      have L := tleaf w7 { data := #[] } names.length
      rw [hsz7] at L
      exact ⟨_, rfl, L, E6.alloc _⟩
end Go.Proofs.YtnhmjndjclpnlaaGreatDoor

namespace Go.Proofs.YtnhmjndjclpnlaaGreatDoor
open Go.RowKit

theorem tref_all (l : List Tk) (hl : l.length ≤ 1000) (hG : Good l) (n : Nat) : SArr l n ∧ SOne l n := by
  induction n with
  | zero =>
    refine ⟨?_, ?_⟩
    · intro w rb tb c k bad nb B names t names' k' bad' h hk hn hr ht hok hM
      simp [arrowM] at hM
    · intro w rb tb c k bad nb B names t names' k' bad' h hk hn hr ht hok hM
      simp [oneM] at hM
  | succ n ih =>
    refine ⟨arr_step l hl hG n ih.1 ih.2, ?_⟩
    intro w rb tb c k bad nb B names t names' k' bad' h hk hn hr ht hok hM
    cases h0 : isM l { data := #[105, 110, 116] } k bad
    · cases h1 : isM l { data := #[98, 111, 111, 108] } k bad
      · cases h2 : isM l { data := #[91] } k bad
        · cases h3 : isM l { data := #[40] } k bad
          · exact one_name l hl hG n ih.1 w rb tb c k bad nb B names t names' k' bad' h hk hn hr ht hok h0 h1 h2 h3 hM
          · exact one_br l hl hG n ih.1 w rb tb c k bad nb B names t names' k' bad' h hk hn hr ht hok h0 h1 h2 h3 hM
        · exact one_list l hl hG n ih.1 w rb tb c k bad nb B names t names' k' bad' h hk hn hr ht hok h0 h1 h2 hM
      · exact one_bool l hl hG n ih.1 w rb tb c k bad nb B names t names' k' bad' h hk hn hr ht hok h0 h1 hM
    · exact one_int l hl hG n ih.1 w rb tb c k bad nb B names t names' k' bad' h hk hn hr ht hok h0 hM

/-- the place goes on; a fault stays. -/
theorem needB_geT {l : List Tk} {s : ByteArray} {k : Nat} {bad : Int} (h : 0 ≤ bad) : needB l s k bad = bad := by
  unfold needB
  rw [if_neg (by simp; omega)]
theorem isM_geT {l : List Tk} {s : ByteArray} {k : Nat} {bad : Int} (h : 0 ≤ bad) : isM l s k bad = false := by
  unfold isM
  have : decide (bad < 0) = false := by simp; omega
  rw [this]; rfl
theorem takeK_geT {l : List Tk} {s : ByteArray} {k : Nat} {bad : Int} : k ≤ takeK l s k bad := by
  unfold takeK; split <;> omega

/-- a fault, or a place further on. -/
theorem tread_on (l : List Tk) : ∀ n, (∀ names k bad t names' k' bad', arrowM l n names k bad = some (t, names', k', bad') → k ≤ k' ∧ (k < k' ∨ 0 ≤ bad')) ∧
    (∀ names k bad t names' k' bad', oneM l n names k bad = some (t, names', k', bad') → k ≤ k' ∧ (k < k' ∨ 0 ≤ bad')) := by
  intro n
  induction n with
  | zero => exact ⟨fun _ _ _ _ _ _ _ h => by simp [arrowM] at h, fun _ _ _ _ _ _ _ h => by simp [oneM] at h⟩
  | succ n ih =>
    refine ⟨?_, ?_⟩
    · intro names k bad t names' k' bad' h
      simp only [arrowM] at h
      obtain ⟨⟨x, n1, k1, b1⟩, h1, h2⟩ := Option.bind_eq_some_iff.1 h
      have g1 := ih.2 _ _ _ _ _ _ _ h1
      simp only at h2
      split at h2
      · obtain ⟨⟨y, n2, k2, b2⟩, h3, h4⟩ := Option.bind_eq_some_iff.1 h2
        have g2 := ih.1 _ _ _ _ _ _ _ h3
        simp only [Option.some.injEq, Prod.mk.injEq] at h4
        obtain ⟨_, _, rfl, rfl⟩ := h4
        exact ⟨by omega, Or.inl (by omega)⟩
      · simp only [Option.some.injEq, Prod.mk.injEq] at h2
        obtain ⟨_, _, rfl, rfl⟩ := h2
        exact g1
    · intro names k bad t names' k' bad' h
      simp only [oneM] at h
      split at h
      · simp only [Option.some.injEq, Prod.mk.injEq] at h
        obtain ⟨_, _, rfl, rfl⟩ := h
        exact ⟨by omega, Or.inl (by omega)⟩
      · split at h
        · simp only [Option.some.injEq, Prod.mk.injEq] at h
          obtain ⟨_, _, rfl, rfl⟩ := h
          exact ⟨by omega, Or.inl (by omega)⟩
        · split at h
          · obtain ⟨⟨x, n1, k1, b1⟩, h1, h2⟩ := Option.bind_eq_some_iff.1 h
            have g1 := ih.1 _ _ _ _ _ _ _ h1
            simp only [Option.some.injEq, Prod.mk.injEq] at h2
            obtain ⟨_, _, rfl, rfl⟩ := h2
            have := takeK_geT (l := l) (s := { data := #[93] }) (k := k1) (bad := b1)
            exact ⟨by omega, Or.inl (by omega)⟩
          · split at h
            · obtain ⟨⟨x, n1, k1, b1⟩, h1, h2⟩ := Option.bind_eq_some_iff.1 h
              have g1 := ih.1 _ _ _ _ _ _ _ h1
              simp only at h2
              split at h2
              · obtain ⟨⟨y, n2, k2, b2⟩, h3, h4⟩ := Option.bind_eq_some_iff.1 h2
                have g2 := ih.1 _ _ _ _ _ _ _ h3
                simp only [Option.some.injEq, Prod.mk.injEq] at h4
                obtain ⟨_, _, rfl, rfl⟩ := h4
                have := takeK_geT (l := l) (s := { data := #[41] }) (k := k2) (bad := b2)
                exact ⟨by omega, Or.inl (by omega)⟩
              · simp only [Option.some.injEq, Prod.mk.injEq] at h2
                obtain ⟨_, _, rfl, rfl⟩ := h2
                have := takeK_geT (l := l) (s := { data := #[41] }) (k := k1) (bad := b1)
                exact ⟨by omega, Or.inl (by omega)⟩
            · simp only [Option.some.injEq, Prod.mk.injEq] at h
              obtain ⟨_, _, rfl, rfl⟩ := h
              refine ⟨takeK_geT, ?_⟩
              by_cases hb : 0 ≤ bad
              · exact Or.inr (by rw [needB_geT hb]; exact hb)
              · by_cases hM : isM l { data := #[110, 97, 109, 101] } k bad = true
                · exact Or.inl (by unfold takeK; rw [if_pos hM]; omega)
                · refine Or.inr ?_
                  unfold needB
                  rw [if_pos (by simp [hM]; omega)]
                  omega

/-- so much fuel is enough. -/
theorem tread_total (l : List Tk) (hG : Good l) : ∀ m, (∀ names k bad n, k < l.length → l.length - k ≤ m → 2 * m + 2 ≤ n → ∃ r, arrowM l n names k bad = some r) ∧
    (∀ names k bad n, k < l.length → l.length - k ≤ m → 2 * m + 1 ≤ n → ∃ r, oneM l n names k bad = some r) := by
  intro m
  induction m with
  | zero => exact ⟨fun _ k _ _ hk h => by omega, fun _ k _ _ hk h => by omega⟩
  | succ m ih =>
    have one : ∀ names k bad n, k < l.length → l.length - k ≤ m + 1 → 2 * (m + 1) + 1 ≤ n → ∃ r, oneM l n names k bad = some r := by
      intro names k bad n hk hm hn
      obtain ⟨n, rfl⟩ : ∃ j, n = j + 1 := ⟨n - 1, by omega⟩
      simp only [oneM]
      split
      · exact ⟨_, rfl⟩
      · split
        · exact ⟨_, rfl⟩
        · split
          · rename_i hM
            have hk1 := isM_lt hG hk hM (by decide) (by decide)
            obtain ⟨r, hr⟩ := ih.1 names (k + 1) bad n hk1 (by omega) (by omega)
            rw [hr]
            exact ⟨_, rfl⟩
          · split
            · rename_i hM
              have hk1 := isM_lt hG hk hM (by decide) (by decide)
              obtain ⟨⟨x, n1, k1, b1⟩, hr⟩ := ih.1 names (k + 1) bad n hk1 (by omega) (by omega)
              rw [hr]
              simp only [Option.bind_some]
              split
              · rename_i hM2
                have hle := ((tread_on l n).1 _ _ _ _ _ _ _ hr).1
                have hkl : k1 < l.length := by
                  rcases Nat.lt_or_ge k1 l.length with h | h
                  · exact h
                  · simp only [isM, Bool.and_eq_true] at hM2
                    have : tkAt l k1 = Tk.no := by simp [tkAt, List.getD_eq_getElem?_getD, List.getElem?_eq_none h]
                    rw [this] at hM2
                    have h2 := hM2.2
                    simp [Tk.no] at h2
                have hk2 := isM_lt hG hkl hM2 (by decide) (by decide)
                obtain ⟨r2, hr2⟩ := ih.1 n1 (k1 + 1) b1 n hk2 (by omega) (by omega)
                rw [hr2]
                exact ⟨_, rfl⟩
              · exact ⟨_, rfl⟩
            · exact ⟨_, rfl⟩
    refine ⟨?_, one⟩
    intro names k bad n hk hm hn
    obtain ⟨n, rfl⟩ : ∃ j, n = j + 1 := ⟨n - 1, by omega⟩
    simp only [arrowM]
    obtain ⟨⟨x, n1, k1, b1⟩, hr⟩ := one names k bad n hk hm (by omega)
    rw [hr]
    simp only [Option.bind_some]
    split
    · rename_i hM2
      have hle := ((tread_on l n).2 _ _ _ _ _ _ _ hr).1
      have hkl : k1 < l.length := by
        rcases Nat.lt_or_ge k1 l.length with h | h
        · exact h
        · simp only [isM, Bool.and_eq_true] at hM2
          have : tkAt l k1 = Tk.no := by simp [tkAt, List.getD_eq_getElem?_getD, List.getElem?_eq_none h]
          rw [this] at hM2
          have h2 := hM2.2
          simp [Tk.no] at h2
      have hk2 := isM_lt hG hkl hM2 (by decide) (by decide)
      obtain ⟨r2, hr2⟩ := ih.1 n1 (k1 + 1) b1 n hk2 (by omega) (by omega)
      rw [hr2]
      exact ⟨_, rfl⟩
    · exact ⟨_, rfl⟩
end Go.Proofs.YtnhmjndjclpnlaaGreatDoor

namespace Go.Proofs.YtnhmjndjclpnlaaGreatDoor
open Go.RowKit

/-- the program's reader stands at the k-th token. -/
structure PAt (w : World) (rb : Nat) (s : ByteArray) (L : List Tk) (k : Nat) : Prop where
  ex : ∃ kd, PRd w rb s kd (tkAt L k).loc (tkAt L k).s ∧ pTok s (tkAt L k).loc = some (kd, (tkAt L k).s, (tkAt L k).loc + (tkAt L k).s.size)
  lt : k < L.length
  nn : (tkAt L k).is ≠ { data := #[110, 111, 110, 101] }
/-- the text and its tokens. -/
structure PEnv (s : ByteArray) (kws : List ByteArray) (L : List Tk) : Prop where
  sz : s.size ≤ 300
  kw : KwOk kws
  eq : L = toksF s kws (s.size + 1) 0
theorem PEnv.good {s : ByteArray} {kws : List ByteArray} {L : List Tk} (h : PEnv s kws L) : Good L := by rw [h.eq]; exact toks_good s kws

section
variable {s : ByteArray} {kws : List ByteArray} {L : List Tk} (hE : PEnv s kws L) {w : World} {rb k : Nat}
include hE
theorem at_is (h : PAt w rb s L k) (q : ByteArray) (hq : q ∈ kws ∨ isSgn q) : Calls Tryz.prog 119 #[.pointer (some ⟨rb, 0, none⟩), .string q] w fun e w' => e = .returned (.bool (isM L q k (-1))) ∧ w' = w := by
  obtain ⟨kd, hr, _⟩ := h.ex
  have l := tk_link hE.kw hE.eq k h.lt
  have e := is_text hE.kw l.2 h.nn l.1 q hq
  have := pis_any w rb s (tkAt L k).s q kd _ hr
  have e2 : isM L q k (-1) = ((tkAt L k).s.toList == q.toList) := by
    simp only [isM]
    rw [← e, ByteArray.toList_eq, ByteArray.toList_eq]
    rfl
  rw [e2]
  exact this
theorem at_next (h : PAt w rb s L k) (h1 : k + 1 < L.length) : run blI s ((tkAt L k).loc + (tkAt L k).s.size) = (tkAt L (k + 1)).loc := by
  have hk : ∀ w, w ∈ kws → w ≠ { data := #[110, 97, 109, 101] } := fun w hw => (hE.kw.ne w hw).1
  have hL := hE.eq
  subst hL
  obtain ⟨_, _, _, a4⟩ := toks_next s kws hk (s.size + 1) 0 (Nat.zero_le _) k h.lt
  rw [a4 h1]
  rfl
theorem at_adv (h : PAt w rb s L k) (h1 : k + 1 < L.length) (hn : (tkAt L (k + 1)).is ≠ { data := #[110, 111, 110, 101] }) : Calls Tryz.prog 118 #[.pointer (some ⟨rb, 0, none⟩)] w fun e w' => e = .returned (.tuple #[]) ∧ Kp (· = rb) w w' ∧ PAt w' rb s L (k + 1) := by
  obtain ⟨kd, hr, _⟩ := h.ex
  have l := tk_link hE.kw hE.eq k h.lt
  obtain ⟨kd', ht⟩ := tk_tok hE.kw hE.eq (k + 1) h1 hn
  have nx := at_next hE h h1
  have := padv_some w rb s (tkAt L k).s kd _ hr hE.sz l.1 kd' (tkAt L (k + 1)).s _ (by rw [nx]; exact ht)
  rw [nx] at this
  refine this.mono ?_
  rintro e w' ⟨rfl, hK, hP⟩
  exact ⟨rfl, hK, ⟨kd', hP, ht⟩, h1, hn⟩
theorem at_advN (h : PAt w rb s L k) (h1 : k + 1 < L.length) (hn : (tkAt L (k + 1)).is = { data := #[110, 111, 110, 101] }) : Calls Tryz.prog 118 #[.pointer (some ⟨rb, 0, none⟩)] w fun e w' => ThrS w (tkAt L (k + 1)).loc e w' := by
  obtain ⟨kd, hr, _⟩ := h.ex
  have l := tk_link hE.kw hE.eq k h.lt
  have ht := tk_none hE.kw hE.eq (k + 1) h1 hn
  have nx := at_next hE h h1
  have := padv_none w rb s (tkAt L k).s kd _ hr hE.sz l.1 (by rw [nx]; exact ht)
  rw [nx] at this
  refine this.mono ?_
  rintro e w' ⟨b, he, h2, h3, hB⟩
  exact ⟨b, he, h2, h3, Kept.below hB⟩
theorem at_text (h : PAt w rb s L k) (q : ByteArray) (hq : q ∈ kws ∨ isSgn q) : ((tkAt L k).s.toList == q.toList) = isM L q k (-1) := by
  have l := tk_link hE.kw hE.eq k h.lt
  have e := is_text hE.kw l.2 h.nn l.1 q hq
  simp only [isM]
  rw [← e, ByteArray.toList_eq, ByteArray.toList_eq]
  rfl
theorem at_exp (h : PAt w rb s L k) (q : ByteArray) (hq : q ∈ kws ∨ isSgn q) (h1 : k + 1 < L.length) (hM : isM L q k (-1) = true) (hn : (tkAt L (k + 1)).is ≠ { data := #[110, 111, 110, 101] }) : Calls Tryz.prog 163 #[.pointer (some ⟨rb, 0, none⟩), .string q] w fun e w' => e = .returned (.tuple #[]) ∧ Kp (· = rb) w w' ∧ PAt w' rb s L (k + 1) := by
  obtain ⟨kd, hr, _⟩ := h.ex
  have l := tk_link hE.kw hE.eq k h.lt
  obtain ⟨kd', ht⟩ := tk_tok hE.kw hE.eq (k + 1) h1 hn
  have nx := at_next hE h h1
  have := pexpect_some w rb s (tkAt L k).s q kd _ hr (by rw [at_text hE h q hq]; exact hM) hE.sz l.1 kd' (tkAt L (k + 1)).s _ (by rw [nx]; exact ht)
  rw [nx] at this
  refine this.mono ?_
  rintro e w' ⟨rfl, hK, hP⟩
  exact ⟨rfl, hK, ⟨kd', hP, ht⟩, h1, hn⟩
theorem at_expN (h : PAt w rb s L k) (q : ByteArray) (hq : q ∈ kws ∨ isSgn q) (h1 : k + 1 < L.length) (hM : isM L q k (-1) = true) (hn : (tkAt L (k + 1)).is = { data := #[110, 111, 110, 101] }) : Calls Tryz.prog 163 #[.pointer (some ⟨rb, 0, none⟩), .string q] w fun e w' => ThrS w (tkAt L (k + 1)).loc e w' := by
  obtain ⟨kd, hr, _⟩ := h.ex
  have l := tk_link hE.kw hE.eq k h.lt
  have ht := tk_none hE.kw hE.eq (k + 1) h1 hn
  have nx := at_next hE h h1
  have := pexpect_none w rb s (tkAt L k).s q kd _ hr (by rw [at_text hE h q hq]; exact hM) hE.sz l.1 (by rw [nx]; exact ht)
  rw [nx] at this
  exact this
theorem at_expB (h : PAt w rb s L k) (q : ByteArray) (hq : q ∈ kws ∨ isSgn q) (hM : isM L q k (-1) = false) : Calls Tryz.prog 163 #[.pointer (some ⟨rb, 0, none⟩), .string q] w fun e w' => ThrS w (tkAt L k).loc e w' := by
  obtain ⟨kd, hr, _⟩ := h.ex
  exact pexpect_bad w rb s (tkAt L k).s q kd _ hr (by rw [at_text hE h q hq]; exact hM)
end

theorem isM_none {L : List Tk} {q : ByteArray} {k : Nat} {bad : Int} (hn : (tkAt L k).is = { data := #[110, 111, 110, 101] }) (hq : q.data.toList ≠ ({ data := #[110, 111, 110, 101] } : ByteArray).data.toList) : isM L q k bad = false := by
  simp only [isM, hn]
  have : (({ data := #[110, 111, 110, 101] } : ByteArray).data.toList == q.data.toList) = false := by
    rw [Bool.eq_false_iff]
    intro e
    exact hq (beq_iff_eq.1 e).symm
  rw [this]
  simp
/-- a fault once told stays. -/
theorem tread_bad (l : List Tk) : ∀ n, (∀ names k bad t names' k' bad', arrowM l n names k bad = some (t, names', k', bad') → (0 ≤ bad → bad' = bad) ∧ (bad' < 0 → bad' = bad)) ∧
    (∀ names k bad t names' k' bad', oneM l n names k bad = some (t, names', k', bad') → (0 ≤ bad → bad' = bad) ∧ (bad' < 0 → bad' = bad)) := by
  have nb : ∀ s k bad, (0 ≤ bad → needB l s k bad = bad) ∧ (needB l s k bad < 0 → needB l s k bad = bad) := fun s k bad => by
    refine ⟨fun h => needB_geT h, ?_⟩
    unfold needB
    split
    · intro h; omega
    · intro _; rfl
  intro n
  induction n with
  | zero => exact ⟨fun _ _ _ _ _ _ _ h => by simp [arrowM] at h, fun _ _ _ _ _ _ _ h => by simp [oneM] at h⟩
  | succ n ih =>
    refine ⟨?_, ?_⟩
    · intro names k bad t names' k' bad' h
      simp only [arrowM] at h
      obtain ⟨⟨x, n1, k1, b1⟩, h1, h2⟩ := Option.bind_eq_some_iff.1 h
      have g1 := ih.2 _ _ _ _ _ _ _ h1
      simp only at h2
      split at h2
      · obtain ⟨⟨y, n2, k2, b2⟩, h3, h4⟩ := Option.bind_eq_some_iff.1 h2
        have g2 := ih.1 _ _ _ _ _ _ _ h3
        simp only [Option.some.injEq, Prod.mk.injEq] at h4
        obtain ⟨_, _, _, rfl⟩ := h4
        exact ⟨fun q => by have := g1.1 q; have := g2.1 (by omega); omega, fun q => by have := g2.2 q; have := g1.2 (by omega); omega⟩
      · simp only [Option.some.injEq, Prod.mk.injEq] at h2
        obtain ⟨_, _, _, rfl⟩ := h2
        exact g1
    · intro names k bad t names' k' bad' h
      simp only [oneM] at h
      split at h
      · simp only [Option.some.injEq, Prod.mk.injEq] at h
        obtain ⟨_, _, _, rfl⟩ := h
        exact ⟨fun _ => rfl, fun _ => rfl⟩
      · split at h
        · simp only [Option.some.injEq, Prod.mk.injEq] at h
          obtain ⟨_, _, _, rfl⟩ := h
          exact ⟨fun _ => rfl, fun _ => rfl⟩
        · split at h
          · obtain ⟨⟨x, n1, k1, b1⟩, h1, h2⟩ := Option.bind_eq_some_iff.1 h
            have g1 := ih.1 _ _ _ _ _ _ _ h1
            simp only [Option.some.injEq, Prod.mk.injEq] at h2
            obtain ⟨_, _, _, rfl⟩ := h2
            have g2 := nb { data := #[93] } k1 b1
            exact ⟨fun q => by have := g1.1 q; have := g2.1 (by omega); omega, fun q => by have := g2.2 q; have := g1.2 (by omega); omega⟩
          · split at h
            · obtain ⟨⟨x, n1, k1, b1⟩, h1, h2⟩ := Option.bind_eq_some_iff.1 h
              have g1 := ih.1 _ _ _ _ _ _ _ h1
              simp only at h2
              split at h2
              · obtain ⟨⟨y, n2, k2, b2⟩, h3, h4⟩ := Option.bind_eq_some_iff.1 h2
                have g3 := ih.1 _ _ _ _ _ _ _ h3
                simp only [Option.some.injEq, Prod.mk.injEq] at h4
                obtain ⟨_, _, _, rfl⟩ := h4
                have g2 := nb { data := #[41] } k2 b2
                exact ⟨fun q => by have := g1.1 q; have := g3.1 (by omega); have := g2.1 (by omega); omega, fun q => by have := g2.2 q; have := g3.2 (by omega); have := g1.2 (by omega); omega⟩
              · simp only [Option.some.injEq, Prod.mk.injEq] at h2
                obtain ⟨_, _, _, rfl⟩ := h2
                have g2 := nb { data := #[41] } k1 b1
                exact ⟨fun q => by have := g1.1 q; have := g2.1 (by omega); omega, fun q => by have := g2.2 q; have := g1.2 (by omega); omega⟩
            · simp only [Option.some.injEq, Prod.mk.injEq] at h
              obtain ⟨_, _, _, rfl⟩ := h
              exact nb { data := #[110, 97, 109, 101] } k bad
/-- at no token the reader of types tells that place. -/
theorem tread_none (l : List Tk) (n : Nat) (names : List ByteArray) (k : Nat) (bad : Int) (hb : bad < 0) (hn : (tkAt l k).is = { data := #[110, 111, 110, 101] }) :
    (∀ t names' k' bad', oneM l n names k bad = some (t, names', k', bad') → bad' = (tkAt l k).loc) ∧ (∀ t names' k' bad', arrowM l n names k bad = some (t, names', k', bad') → bad' = (tkAt l k).loc) := by
  have one : ∀ n t names' k' bad', oneM l n names k bad = some (t, names', k', bad') → bad' = (tkAt l k).loc := by
    intro n t names' k' bad' h
    cases n with
    | zero => simp [oneM] at h
    | succ n =>
      simp only [oneM, isM_none hn (show ({ data := #[105, 110, 116] } : ByteArray).data.toList ≠ ({ data := #[110, 111, 110, 101] } : ByteArray).data.toList by decide), isM_none hn (show ({ data := #[98, 111, 111, 108] } : ByteArray).data.toList ≠ ({ data := #[110, 111, 110, 101] } : ByteArray).data.toList by decide), isM_none hn (show ({ data := #[91] } : ByteArray).data.toList ≠ ({ data := #[110, 111, 110, 101] } : ByteArray).data.toList by decide), isM_none hn (show ({ data := #[40] } : ByteArray).data.toList ≠ ({ data := #[110, 111, 110, 101] } : ByteArray).data.toList by decide), Bool.false_eq_true, if_false, Option.some.injEq, Prod.mk.injEq] at h
      obtain ⟨_, _, _, rfl⟩ := h
      unfold needB
      rw [isM_none hn (by decide), if_pos (by simp; omega)]
  refine ⟨one n, ?_⟩
  intro t names' k' bad' h
  cases n with
  | zero => simp [arrowM] at h
  | succ n =>
    simp only [arrowM] at h
    obtain ⟨⟨x, n1, k1, b1⟩, h1, h2⟩ := Option.bind_eq_some_iff.1 h
    have e := one n _ _ _ _ h1
    simp only at h2
    rw [isM_geT (by omega)] at h2
    simp only [Bool.false_eq_true, if_false, Option.some.injEq, Prod.mk.injEq] at h2
    obtain ⟨_, _, _, rfl⟩ := h2
    exact e
end Go.Proofs.YtnhmjndjclpnlaaGreatDoor

namespace Go.Proofs.YtnhmjndjclpnlaaGreatDoor
open Go.RowKit

/-- all that lay there is as it was, but for the blocks of S (the tape may have been asked). -/
structure Kq (S : Nat → Prop) (w w' : World) : Prop where
  os : w'.os = w.os
  output : w'.output = w.output
  size : w.heap.size ≤ w'.heap.size
  block : ∀ k, k < w.heap.size → ¬ S k → w'.heap[k]? = w.heap[k]?
theorem Kq.trans {S : Nat → Prop} {a b c : World} (h : Kq S a b) (k : Kq S b c) : Kq S a c := ⟨k.os.trans h.os, k.output.trans h.output, Nat.le_trans h.size k.size, fun q hq hs => (k.block q (Nat.lt_of_lt_of_le hq h.size) hs).trans (h.block q hq hs)⟩
theorem Kq.of_kp {S T : Nat → Prop} {a b : World} (h : Kp T a b) (hT : ∀ q, T q → S q) : Kq S a b := ⟨h.os, h.output, h.size, fun q hq hs => h.block q hq (fun x => hs (hT q x))⟩
theorem Kq.of_kept {S : Nat → Prop} {a b : World} (h : Kept a b) : Kq S a b := ⟨h.os, h.output, h.size, fun q hq _ => h.block q hq⟩
theorem PAt.kept {w w' : World} {rb : Nat} {s : ByteArray} {L : List Tk} {k : Nat} (h : PAt w rb s L k) (hk : Kept w w') : PAt w' rb s L k := by
  obtain ⟨kd, h1, h2⟩ := h.ex
  exact ⟨⟨kd, hk.blk h1, h2⟩, h.lt, h.nn⟩
theorem Kept.alloc (w : World) (o : Obj) : Kept w (w.alloc o) := Kept.below ((Below.refl _ _).alloc (by simp) _)

end Go.Proofs.YtnhmjndjclpnlaaGreatDoor

namespace Go.Proofs.YtnhmjndjclpnlaaGreatDoor

/-- the fault that stands in a state of the reader: one that was told, or the token that is none. -/
def bz (l : List Tk) (k : Nat) (bad : Int) : Int := if 0 ≤ bad then bad else if (tkAt l k).is = { data := #[110, 111, 110, 101] } then ((tkAt l k).loc : Int) else -1
section
variable {l : List Tk} {k : Nat} {bad : Int}
theorem bz_ge (h : 0 ≤ bad) : bz l k bad = bad := by unfold bz; rw [if_pos h]
theorem bz_none (h : bad < 0) (hn : (tkAt l k).is = { data := #[110, 111, 110, 101] }) : bz l k bad = (tkAt l k).loc := by unfold bz; rw [if_neg (by omega), if_pos hn]
theorem bz_neg (h : bz l k bad < 0) : bad < 0 ∧ (tkAt l k).is ≠ { data := #[110, 111, 110, 101] } := by
  unfold bz at h
  split at h
  · omega
  · split at h
    · omega
    · exact ⟨by omega, by assumption⟩
theorem bz_ok (h : bad < 0) (hn : (tkAt l k).is ≠ { data := #[110, 111, 110, 101] }) : bz l k bad = -1 := by unfold bz; rw [if_neg (by omega), if_neg hn]
theorem bz_self (h : 0 ≤ bz l k bad) : bz l k (bz l k bad) = bz l k bad := bz_ge h
theorem isM_bz {q : ByteArray} (h : 0 ≤ bz l k bad) (hq : q.data.toList ≠ ({ data := #[110, 111, 110, 101] } : ByteArray).data.toList) : isM l q k bad = false := by
  by_cases h1 : 0 ≤ bad
  · exact isM_geT h1
  · by_cases h2 : (tkAt l k).is = { data := #[110, 111, 110, 101] }
    · exact isM_none h2 hq
    · rw [bz_ok (by omega) h2] at h; omega
theorem need_bz {q : ByteArray} (h : 0 ≤ bz l k bad) (hq : q.data.toList ≠ ({ data := #[110, 111, 110, 101] } : ByteArray).data.toList) : takeK l q k bad = k ∧ needB l q k bad = bz l k bad := by
  have e := isM_bz h hq
  unfold takeK needB
  rw [e]
  refine ⟨rfl, ?_⟩
  by_cases h1 : 0 ≤ bad
  · rw [bz_ge h1, if_neg (by simp; omega)]
  · by_cases h2 : (tkAt l k).is = { data := #[110, 111, 110, 101] }
    · rw [bz_none (by omega) h2, if_pos (by simp; omega)]
    · rw [bz_ok (by omega) h2] at h; omega
theorem need_bz' {q : ByteArray} (h : 0 ≤ bz l k bad) (hq : q.data.toList ≠ ({ data := #[110, 111, 110, 101] } : ByteArray).data.toList) : bz l (takeK l q k bad) (needB l q k bad) = bz l k bad := by
  rw [(need_bz h hq).1, (need_bz h hq).2]; exact bz_self h
theorem dup_ge {names : List ByteArray} {s : ByteArray} {loc : Nat} (h : 0 ≤ bad) : dupB names s loc bad = bad := by
  unfold dupB
  rw [if_neg (by simp; omega)]
end

/-- a fault once told stays. -/
structure Stk (l : List Tk) (n : Nat) : Prop where
  ex : ∀ k bad x k' bad', expM l n k bad = some (x, k', bad') → 0 ≤ bz l k bad → bz l k' bad' = bz l k bad
  bo : ∀ names kids k bad ns' ks' k' bad', boundM l n names kids k bad = some (ns', ks', k', bad') → 0 ≤ bz l k bad → bz l k' bad' = bz l k bad
  an : ∀ names kids k bad ns' ks' k' bad', andM l n names kids k bad = some (ns', ks', k', bad') → 0 ≤ bz l k bad → bz l k' bad' = bz l k bad
  at' : ∀ k bad x k' bad', atomM l n k bad = some (x, k', bad') → 0 ≤ bz l k bad → bz l k' bad' = bz l k bad
  ap : ∀ x k bad x' k' bad', appM l n x k bad = some (x', k', bad') → 0 ≤ bz l k bad → bz l k' bad' = bz l k bad
theorem stk (l : List Tk) : ∀ n, Stk l n := by
  intro n
  induction n with
  | zero => exact ⟨fun _ _ _ _ _ h => by simp [expM] at h, fun _ _ _ _ _ _ _ _ h => by simp [boundM] at h, fun _ _ _ _ _ _ _ _ h => by simp [andM] at h, fun _ _ _ _ _ h => by simp [atomM] at h, fun _ _ _ _ _ _ h => by simp [appM] at h⟩
  | succ n ih =>
    refine ⟨?_, ?_, ?_, ?_, ?_⟩
    · intro k bad x k' bad' h hz
      simp only [expM, isM_bz hz (show ({ data := #[102, 117, 110] } : ByteArray).data.toList ≠ ({ data := #[110, 111, 110, 101] } : ByteArray).data.toList by decide), isM_bz hz (show ({ data := #[105, 102] } : ByteArray).data.toList ≠ ({ data := #[110, 111, 110, 101] } : ByteArray).data.toList by decide), isM_bz hz (show ({ data := #[108, 101, 116] } : ByteArray).data.toList ≠ ({ data := #[110, 111, 110, 101] } : ByteArray).data.toList by decide), Bool.false_eq_true, if_false] at h
      split at h
      · simp only [Option.some.injEq, Prod.mk.injEq] at h
        obtain ⟨_, rfl, rfl⟩ := h
        rfl
      · obtain ⟨⟨x1, k1, b1⟩, h1, h2⟩ := Option.bind_eq_some_iff.1 h
        have e := ih.at' _ _ _ _ _ h1 hz
        exact (ih.ap _ _ _ _ _ _ h2 (by simp only; omega)).trans e
    · intro names kids k bad ns' ks' k' bad' h hz
      simp only [boundM] at h
      obtain ⟨⟨x1, k1, b1⟩, h1, h2⟩ := Option.bind_eq_some_iff.1 h
      simp only [Option.some.injEq, Prod.mk.injEq] at h2
      obtain ⟨_, _, rfl, rfl⟩ := h2
      have e1 := need_bz hz (show ({ data := #[110, 97, 109, 101] } : ByteArray).data.toList ≠ ({ data := #[110, 111, 110, 101] } : ByteArray).data.toList by decide)
      rw [e1.1, e1.2, dup_ge hz] at h1
      have hz2 : 0 ≤ bz l k (bz l k bad) := by rw [bz_self hz]; exact hz
      have e2 := need_bz hz2 (show ({ data := #[61] } : ByteArray).data.toList ≠ ({ data := #[110, 111, 110, 101] } : ByteArray).data.toList by decide)
      rw [e2.1, e2.2, bz_self hz] at h1
      rw [ih.ex _ _ _ _ _ h1 hz2, bz_self hz]
    · intro names kids k bad ns' ks' k' bad' h hz
      simp only [andM, isM_bz hz (show ({ data := #[97, 110, 100] } : ByteArray).data.toList ≠ ({ data := #[110, 111, 110, 101] } : ByteArray).data.toList by decide), Bool.false_eq_true, if_false, Option.some.injEq, Prod.mk.injEq] at h
      obtain ⟨_, _, rfl, rfl⟩ := h
      rfl
    · intro k bad x k' bad' h hz
      simp only [atomM, isM_bz hz (show ({ data := #[110, 97, 109, 101] } : ByteArray).data.toList ≠ ({ data := #[110, 111, 110, 101] } : ByteArray).data.toList by decide), isM_bz hz (show ({ data := #[110, 117, 109] } : ByteArray).data.toList ≠ ({ data := #[110, 111, 110, 101] } : ByteArray).data.toList by decide), Bool.or_false, Bool.false_eq_true, if_false] at h
      obtain ⟨⟨x1, k1, b1⟩, h1, h2⟩ := Option.bind_eq_some_iff.1 h
      have e1 := need_bz hz (show ({ data := #[40] } : ByteArray).data.toList ≠ ({ data := #[110, 111, 110, 101] } : ByteArray).data.toList by decide)
      rw [e1.1, e1.2] at h1
      have hz2 : 0 ≤ bz l k (bz l k bad) := by rw [bz_self hz]; exact hz
      have e2 := ih.ex _ _ _ _ _ h1 hz2
      rw [bz_self hz] at e2
      have hz3 : 0 ≤ bz l k1 b1 := by omega
      simp only [isM_bz hz3 (show ({ data := #[44] } : ByteArray).data.toList ≠ ({ data := #[110, 111, 110, 101] } : ByteArray).data.toList by decide), Bool.false_eq_true, if_false, Option.some.injEq, Prod.mk.injEq] at h2
      obtain ⟨_, rfl, rfl⟩ := h2
      rw [need_bz' hz3 (by decide), e2]
    · intro x k bad x' k' bad' h hz
      simp only [appM, isM_bz hz (show ({ data := #[110, 97, 109, 101] } : ByteArray).data.toList ≠ ({ data := #[110, 111, 110, 101] } : ByteArray).data.toList by decide), isM_bz hz (show ({ data := #[110, 117, 109] } : ByteArray).data.toList ≠ ({ data := #[110, 111, 110, 101] } : ByteArray).data.toList by decide), isM_bz hz (show ({ data := #[40] } : ByteArray).data.toList ≠ ({ data := #[110, 111, 110, 101] } : ByteArray).data.toList by decide), Bool.or_false, Bool.false_eq_true, if_false, Option.some.injEq, Prod.mk.injEq] at h
      obtain ⟨_, rfl, rfl⟩ := h
      rfl
end Go.Proofs.YtnhmjndjclpnlaaGreatDoor
