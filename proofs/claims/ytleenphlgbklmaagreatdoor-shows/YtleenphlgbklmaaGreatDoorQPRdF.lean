import Derived.Test.YtleenphlgbklmaaGreatDoorQPCat
set_option linter.unusedVariables false
set_option linter.unusedSimpArgs false
namespace Go.Proofs.YtleenphlgbklmaaGreatDoor
open Go.RowKit

set_option maxRecDepth 20000 in
set_option maxHeartbeats 1000000 in
theorem prec_any {s : ByteArray} {L : List Tk} (hE : PEnv s wordsL L) (n : Nat) (hA : ∀ m, m ≤ n → SE s L m) (w : World) (rb k : Nat) (h : PAt w rb s L k) (hR : isM L { data := #[114, 101, 99] } k (-1) = true) (ns1 nms : List ByteArray) (ks1 kds : List X) (y : X) (K1 K2 K3 : Nat) (B1 B2 B3 : Int) (pl : Nat)
    (hX : boundM L n [] [] (k + 1) (-1) = some (ns1, ks1, K1, B1)) (hY : andM L n ns1 ks1 K1 B1 = some (nms, kds, K2, B2)) (hZ : expM L n (takeK L { data := #[105, 110] } K2 B2) (needB L { data := #[105, 110] } K2 B2) = some (y, K3, B3)) :
    Calls Tryz.prog 176 #[.agg #[.pointer (some ⟨rb, 0, none⟩)]] w fun e w' => PRet (QX w (.mk { data := #[114, 101, 99] } nms (kds ++ [y]) pl)) w rb s L K3 B3 e w' := by
  have hk0 : Kp (fun _ => False) w (w.alloc (.cells #[.pointer (some ⟨rb, 0, none⟩)] 178)) := (Kp.refl _ _).alloc _
  have hc0 : (w.alloc (.cells #[.pointer (some ⟨rb, 0, none⟩)] 178)).heap[w.heap.size]? = some (.cells #[.pointer (some ⟨rb, 0, none⟩)] 178 (0, 0)) := heap_alloc_new _ _
  have h0 : PAt (w.alloc (.cells #[.pointer (some ⟨rb, 0, none⟩)] 178)) rb s L k := h.kp hk0
  have hrl := h.lt'
  generalize hw0 : w.alloc (.cells #[.pointer (some ⟨rb, 0, none⟩)] 178) = w0 at *
  have a0 : w0.cell? ⟨w.heap.size, 0, none⟩ = some (.pointer (some ⟨rb, 0, none⟩)) := by simp [World.cell?, hc0]
  have HB : Hid (PB L) := hE.pb
  have HA : Hid _ := hA
  have C1 := px_expect hE h0 { data := #[114, 101, 99] } (.inl (by simp [wordsL])) (by decide) (by decide)
  rw [(need_true hR).1, (need_true hR).2] at C1
  have HC : Hid _ := C1
  have HX : Hid _ := hX
  have HY : Hid _ := hY
  have HZ : Hid _ := hZ
  have HFb : Hid (∀ Kb Bb, 0 ≤ bz L Kb Bb → (∃ m ns ks ns1 ks1 K1 B1, boundM L m ns ks Kb Bb = some (ns1, ks1, K1, B1) ∧ andM L m ns1 ks1 K1 B1 = some (nms, kds, K2, B2)) → bz L K3 B3 = bz L Kb Bb) := fun Kb Bb hz ⟨m, ns, ks, ns1, ks1, K1, B1, e1, e2⟩ => by
    have q1 := (stk L m).bo _ _ _ _ _ _ _ _ e1 hz
    have q2 := (stk L m).an _ _ _ _ _ _ _ _ e2 (by rw [q1]; exact hz)
    have q3 := need_bz' (q := { data := #[105, 110] }) (show 0 ≤ bz L K2 B2 by rw [q2, q1]; exact hz) (by decide)
    have q4 := (stk L n).ex _ _ _ _ _ hZ (by rw [q3, q2, q1]; exact hz)
    rw [q4, q3, q2, q1]
  have HFe : Hid (∀ Kb Bb m ns ks, andM L m ns ks Kb Bb = some (nms, kds, K2, B2) → 0 ≤ bz L Kb Bb → bz L K3 B3 = bz L Kb Bb) := fun Kb Bb m ns ks e2 hz => by
    have q2 := (stk L m).an _ _ _ _ _ _ _ _ e2 hz
    have q3 := need_bz' (q := { data := #[105, 110] }) (show 0 ≤ bz L K2 B2 by rw [q2]; exact hz) (by decide)
    have q4 := (stk L n).ex _ _ _ _ _ hZ (by rw [q3, q2]; exact hz)
    rw [q4, q3, q2]
  obtain ⟨i9, hi9, hz90, hz91, hz92⟩ := info_parts Tryz.info9
  obtain ⟨iX, hiX, hzX0, hzX1, hzX2⟩ := info_parts Tryz.info130
  clear hA hX hY hZ h C1
  go_enter Tryz.func176, Tryz.ntmps176
  go_wp2_with fail
  refine Calls.mono HC.out ?_
  intro e w1 hres
  clear HC
  by_cases hz : 0 ≤ bz L (k + 1) (-1)
  · obtain ⟨b, he, hx⟩ := hres.2 hz
    rw [he]
    clear he hres
    go_wp2
    exact ⟨rfl, PRet.up (Kq.of_kp hk0 (fun _ z => z.elim)) hz (fun hz => HFb.out _ _ hz ⟨n, _, _, _, _, _, _, HX.out, HY.out⟩) ⟨b, rfl, hx⟩⟩
  obtain ⟨_, v, he, hv, P1, kq⟩ := hres.1 (by omega)
  clear hz hres
  subst hv
  subst he
  have KK1 := (Kq.of_kp (S := (· = rb)) hk0 (fun _ z => z.elim)).trans kq
  have hc1 := (kq.block _ (lt_of_block hc0) (by show ¬ _; omega)).trans hc0
  have hs1 : w.heap.size < w1.heap.size := lt_of_block hc1
  have R1 : RecSt w w1 rb s L [] [] (.slice none 0 0) (.slice none 0 0) [] (k + 1) := ⟨World.ownsRow_nil _ _ _ _, World.ownsRow_nil _ _ _ _, rfl, fun j x p h1 _ => by simp at h1, P1, KK1, hc1, fun m hm => by simp at hm, hrl, by simp [dps]⟩
  clear hR P1 KK1 hc1 kq
  go_wp2_with fail
  go_loopg [3, 4] n (fun m nv vv wr => ∃ (names : List ByteArray) (kids : List X) (ps : List Value) (Kr : Nat) (ns1 : List ByteArray) (ks1 : List X) (K1 : Nat) (B1 : Int), RecSt w wr rb s L names kids nv vv ps Kr ∧ Hid (names.length = kids.length) ∧ names.length ≤ Kr ∧ Hid (boundM L m names kids Kr (-1) = some (ns1, ks1, K1, B1) ∧ andM L m ns1 ks1 K1 B1 = some (nms, kds, K2, B2)) ∧ m ≤ n)
  case atStart => exact ⟨[], [], [], k + 1, ns1, ks1, K1, B1, R1, rfl, Nat.zero_le _, ⟨HX.out, HY.out⟩, Nat.le_refl _⟩
  case round =>
    obtain ⟨names, kids, ps, Kr, nsr, ksr, Kx, Bx, R, HNK, hlK, HM, hmn⟩ := hrel
    clear R1 HX HY
    obtain ⟨an, cn, rfl⟩ : ∃ ao cap, u3 = .slice ao names.length cap := by
      rcases R.nm.2 with ⟨e1, e2⟩ | ⟨g, cap, cur, e1, _⟩
      · exact ⟨none, 0, by rw [e1, e2]⟩
      · exact ⟨_, cap, e1⟩
    obtain ⟨av, cv, rfl⟩ : ∃ ao cap, u4 = .slice ao ps.length cap := by
      rcases R.vl.2 with ⟨e1, e2⟩ | ⟨g, cap, cur, e1, _⟩
      · exact ⟨none, 0, by rw [e1, e2]⟩
      · exact ⟨_, cap, e1⟩
    cases gk with
    | zero =>
      have := HM.out.1
      simp [boundM] at this
    | succ m =>
    have q := HM.out.1
    simp only [boundM] at q
    obtain ⟨Ka, eKa⟩ : ∃ K, takeK L { data := #[110, 97, 109, 101] } Kr (-1) = K := ⟨_, rfl⟩
    obtain ⟨Ba, eBa⟩ : ∃ B, dupB names (tkAt L Kr).s (tkAt L Kr).loc (needB L { data := #[110, 97, 109, 101] } Kr (-1)) = B := ⟨_, rfl⟩
    rw [eKa, eBa] at q
    obtain ⟨Kb, eKb⟩ : ∃ K, takeK L { data := #[61] } Ka Ba = K := ⟨_, rfl⟩
    obtain ⟨Bb, eBb⟩ : ∃ B, needB L { data := #[61] } Ka Ba = B := ⟨_, rfl⟩
    rw [eKb, eBb] at q
    obtain ⟨⟨x, Kc, Bc⟩, q1, q2⟩ := Option.bind_eq_some_iff.1 q
    simp only [Option.some.injEq, Prod.mk.injEq] at q2
    obtain ⟨rfl, rfl, rfl, rfl⟩ := q2
    have F3 : Hid (0 ≤ bz L Kc Bc → bz L K3 B3 = bz L Kc Bc) := HFe.out _ _ _ _ _ HM.out.2
    have F2 : Hid (0 ≤ bz L Kb Bb → bz L K3 B3 = bz L Kb Bb) := sticks (fun hz => (stk L m).ex _ _ _ _ _ q1 hz) F3.out
    have F1 : Hid (0 ≤ bz L Ka Ba → bz L K3 B3 = bz L Ka Ba) := sticks (fun hz => by rw [← eKb, ← eBb]; exact need_bz' hz (by decide)) F2.out
    have Q1 : Hid _ := q1
    have QA : Hid _ := HM.out.2
    have C1 := pnewname hE R.at' names _ (ownsRow_base R.nm (Nat.zero_le _))
    rw [eKa, eBa] at C1
    have HC1 : Hid _ := C1
    have hKb : Ka ≤ Kb := by rw [← eKb]; unfold takeK; split <;> omega
    have EKb : Hid _ := eKb
    have EBb : Hid _ := eBb
    have hKa : Hid (Ba = -1 → Ka = Kr + 1) := fun hb => by
      cases hM : isM L { data := #[110, 97, 109, 101] } Kr (-1)
      · rw [(need_false hM).2, dup_ge (by omega)] at eBa
        omega
      · rw [← eKa, (need_true hM).1]
    have ar : wr.cell? ⟨w.heap.size, 0, none⟩ = some (.pointer (some ⟨rb, 0, none⟩)) := by simp [World.cell?, R.rc]
    clear q q1 C1 eKb eBb eKa eBa HM
    go_wp2_with fail
    refine Calls.mono HC1.out ?_
    intro e w2 hres
    clear HC1
    by_cases hz : 0 ≤ bz L Ka Ba
    · obtain ⟨b, he, hx⟩ := hres.2 hz
      rw [he]
      clear he hres
      go_wp2
      exact ⟨rfl, PRet.up R.kq hz F1.out ⟨b, rfl, hx⟩⟩
    obtain ⟨hb, v, he, hv, P2, kq⟩ := hres.1 (by omega)
    clear hz hres
    obtain ⟨hv, hWd⟩ := hv
    subst hv
    subst he
    have hKa1 := hKa.out hb
    subst hb
    have R2 := R.move kq P2
    have hlen := HB.out.len
    have hl2 := P2.lt
    have hs2 : w.heap.size ≤ w2.heap.size := R2.kq.size
    clear R ar P2 kq
    go_wp2_with (at_builtin; refine wpList_append_own2 _ rfl (.tmp 10) (.tmp 14) 34 rfl w.heap.size 9 i9 (.string { data := #[] }) 1 16 Tryz.underlying34 hi9 hz90 hz91 hz92 rfl (by decide) _ _ _ rfl (R2.nm.alloc _) ⟨w2.heap.size, 0, none⟩ 1 1 [.string (tkAt L Kr).s] rfl rfl (fun q u hq => by match q, hq with | 0, hq => simp at hq; subst hq; simp [Addr.add]) (fun u hu => by simp at hu; subst hu; rfl) (by unfold maxLen; omega) (by omega) (by simp; omega) (by decide) ?_)
    intro g3 cap3 w3 hown3 hgrow3 hfr3
    obtain ⟨R3, hs3⟩ := R2.name (tkAt L Kr).s hWd _ hown3 hgrow3 (by simpa using hfr3)
    have a3 : w3.cell? ⟨w.heap.size, 0, none⟩ = some (.pointer (some ⟨rb, 0, none⟩)) := by simp [World.cell?, R3.rc]
    have C2 := px_expect hE R3.at' { data := #[61] } (.inr (.inr ⟨61, rfl, rfl⟩)) (by decide) (by decide)
    rw [EKb.out, EBb.out] at C2
    have HC2 : Hid _ := C2
    clear C2 R2 hown3 hgrow3 hfr3
    go_wp2_with fail
    refine Calls.mono HC2.out ?_
    intro e w4 hres
    clear HC2
    by_cases hz : 0 ≤ bz L Kb Bb
    · obtain ⟨b, he, hx⟩ := hres.2 hz
      rw [he]
      clear he hres
      go_wp2
      exact ⟨rfl, PRet.up R3.kq hz F2.out ⟨b, rfl, hx⟩⟩
    obtain ⟨hb, v, he, hv, P4, kq⟩ := hres.1 (by omega)
    clear hz hres
    subst hv
    subst he
    subst hb
    have R4 := R3.move kq P4
    have a4 : w4.cell? ⟨w.heap.size, 0, none⟩ = some (.pointer (some ⟨rb, 0, none⟩)) := by simp [World.cell?, R4.rc]
    have hs4 : w3.heap.size ≤ w4.heap.size := kq.size
    have HC3 : Hid _ := HA.out m (by omega) _ _ _ _ _ _ R4.at' Q1.out
    clear R3 a3 P4 kq
    go_wp2_with fail
    refine Calls.mono HC3.out ?_
    intro e w5 hres
    clear HC3
    by_cases hz : 0 ≤ bz L Kc Bc
    · obtain ⟨b, he, hx⟩ := hres.2 hz
      rw [he]
      clear he hres
      go_wp2
      exact ⟨rfl, PRet.up R4.kq hz F3.out ⟨b, rfl, hx⟩⟩
    obtain ⟨hb, v, he, hv, P5, kq⟩ := hres.1 (by omega)
    clear hz hres
    have R5 := R4.move kq P5
    have hx5 : PX w5 (fun b => w.heap.size ≤ b ∧ (Value.slice (some ⟨g3, 0, none⟩) (names.length + 1) cap3).ownBlock ≠ some b ∧ (Value.slice av ps.length cv).ownBlock ≠ some b) x v := hv.mono (fun b h1 _ => ⟨by omega, fun z => by have := (row_own R4.nm z).2.1; omega, fun z => by have := (row_own R4.vl z).2.1; omega⟩)
    obtain ⟨T5, t5, rfl⟩ := hv.iface
    subst he
    subst hb
    have hma := ((made L HB.out.sz m).e _ _ _ _ _ Q1.out (by omega))
    have hl5 := P5.lt
    have hdx := HB.out.dp Q1.out (by omega) hl5
    have hlp : ps.length ≤ Kr := by rw [R5.ln, ← HNK.out]; exact hlK
    have hs5 : w4.heap.size ≤ w5.heap.size := kq.size
    have hs5' : w.heap.size ≤ w5.heap.size := R5.kq.size
    clear R4 a4 P5 kq hv
    go_wp2_with (at_builtin; refine wpList_append_own2 _ rfl (.tmp 19) (.tmp 22) 339 rfl w.heap.size 130 iX .nilIface 1 16 Tryz.underlying339 hiX hzX0 hzX1 hzX2 rfl (by decide) _ _ _ rfl (R5.vl.alloc _) ⟨w5.heap.size, 0, none⟩ 1 1 [.iface T5 t5] rfl rfl (fun q u hq => by match q, hq with | 0, hq => simp at hq; subst hq; simp [Addr.add]) (fun u hu => by simp at hu; subst hu; rfl) (by unfold maxLen; omega) (by omega) (by simp; omega) (by decide) ?_)
    intro g6 cap6 w6 hown6 hgrow6 hfr6
    obtain ⟨R6, hs6⟩ := R5.value x _ hx5 _ hown6 hgrow6 (by simpa using hfr6) hdx
    have a6 : w6.cell? ⟨w.heap.size, 0, none⟩ = some (.pointer (some ⟨rb, 0, none⟩)) := by simp [World.cell?, R6.rc]
    have HI : Hid _ := at_is hE R6.at' { data := #[97, 110, 100] } (.inl (by simp [wordsL]))
    clear R5 hx5 hown6 hgrow6 hfr6
    go_wp2_with fail
    refine Calls.mono HI.out ?_
    rintro e w' ⟨rfl, hww⟩
    rw [hww]
    clear hww w' HI
    cases hM : isM L { data := #[97, 110, 100] } Kc (-1)
    · have q := QA.out
      simp only [andM, hM, Bool.false_eq_true, if_false, Option.some.injEq, Prod.mk.injEq] at q
      obtain ⟨rfl, rfl, rfl, rfl⟩ := q
      obtain ⟨Ke, eKe⟩ : ∃ K, takeK L { data := #[105, 110] } Kc (-1) = K := ⟨_, rfl⟩
      obtain ⟨Be, eBe⟩ : ∃ B, needB L { data := #[105, 110] } Kc (-1) = B := ⟨_, rfl⟩
      have z1 := HZ.out
      rw [eKe, eBe] at z1
      have F4 : Hid (0 ≤ bz L Ke Be → bz L K3 B3 = bz L Ke Be) := fun hz => (stk L n).ex _ _ _ _ _ z1 hz
      have Z1 : Hid _ := z1
      have C5 := px_expect hE R6.at' { data := #[105, 110] } (.inl (by simp [wordsL])) (by decide) (by decide)
      rw [eKe, eBe] at C5
      have HC5 : Hid _ := C5
      clear QA F1 F2 F3 HFb HFe hM C5 z1 eKe eBe HZ
      go_wp2_with fail
      refine Calls.mono HC5.out ?_
      intro e w7 hres
      clear HC5
      by_cases hz : 0 ≤ bz L Ke Be
      · obtain ⟨b, he, hx⟩ := hres.2 hz
        rw [he]
        clear he hres
        go_wp2
        exact ⟨rfl, PRet.up R6.kq hz F4.out ⟨b, rfl, hx⟩⟩
      obtain ⟨hb, v, he, hv, P7, kq⟩ := hres.1 (by omega)
      clear hz hres
      subst hv
      subst he
      subst hb
      have R7 := R6.move kq P7
      have a7 : w7.cell? ⟨w.heap.size, 0, none⟩ = some (.pointer (some ⟨rb, 0, none⟩)) := by simp [World.cell?, R7.rc]
      have HC6 : Hid _ := HA.out n (Nat.le_refl _) _ _ _ _ _ _ R7.at' Z1.out
      clear R6 a6 P7 kq
      go_wp2_with fail
      refine Calls.mono HC6.out ?_
      intro e w8 hres
      clear HC6
      by_cases hz : 0 ≤ bz L K3 B3
      · obtain ⟨b, he, hx⟩ := hres.2 hz
        rw [he]
        clear he hres
        go_wp2
        exact ⟨rfl, PRet.up R7.kq hz (fun _ => rfl) ⟨b, rfl, hx⟩⟩
      obtain ⟨hb, v, he, hv, P8, kq⟩ := hres.1 (by omega)
      clear hz hres
      have R8 := R7.move kq P8
      have Y8 : PX w8 (fun b => w.heap.size ≤ b) y v := hv.mono (fun b h1 _ => Nat.le_trans R7.kq.size h1)
      obtain ⟨T8, t8, rfl⟩ := hv.iface
      subst he
      subst hb
      have hdy := HB.out.dp Z1.out (by omega) P8.lt
      clear R7 a7 P8 kq hv Z1 F4
      have hone : ∀ p, p ∈ ps ++ [.iface T5 t5] → p.oneCell' = true := fun p hp => by
        obtain ⟨jj, hj, e⟩ := List.getElem_of_mem hp
        have hj2 : jj < (kids ++ [x]).length := by rw [← R8.ln]; exact hj
        obtain ⟨T, t, e2⟩ := (R8.px jj (kids ++ [x])[jj] p (by simp [hj2]) (by rw [List.getElem?_eq_getElem hj, e])).iface
        rw [e2]
        rfl
      have C9 := pcat_any w8 (ps ++ [.iface T5 t5]) T8 t8 g6 cap6 (by have h := ownsRow_base R8.vl (Nat.zero_le w.heap.size); simpa using h) (by simp) (by simp; omega) hone
      have hpl : (ps ++ [Value.iface T5 t5]).length = ps.length + 1 := by simp
      rw [hpl] at C9
      have HC9 : Hid _ := C9
      have HPL : Hid _ := hpl
      clear C9 hone hpl
      go_wp2_with fail
      refine Calls.mono HC9.out ?_
      rintro e w9 ⟨g9, c9, rfl, hown9, hk9⟩
      clear HC9
      have hlen9 : ((ps ++ [Value.iface T5 t5]) ++ [Value.iface T8 t8]).length = ps.length + 1 + 1 := by simp
      have hxl : ((ps ++ [Value.iface T5 t5]) ++ [Value.iface T8 t8]).length = ((kids ++ [x]) ++ [y]).length := by
        have h := R8.ln
        simp only [List.length_append, List.length_cons, List.length_nil] at h ⊢
        omega
      have C10 := above_any ((kids ++ [x]) ++ [y]) ((ps ++ [.iface T5 t5]) ++ [.iface T8 t8]) g9 c9 w9 (fun b => w.heap.size ≤ b) hxl (fun jj hj => hown9.cellAt jj (by rw [hlen9] at hj; omega)) (fun jj yy p h1 h2 => by
        by_cases hj : jj < (kids ++ [x]).length
        · rw [List.getElem?_append_left hj] at h1
          rw [List.getElem?_append_left (by rw [R8.ln]; exact hj)] at h2
          exact ((R8.px jj yy p h1 h2).mono (fun b hP _ => hP.1)).kp hk9
        · rw [List.getElem?_append_right (by omega)] at h1
          rw [List.getElem?_append_right (by rw [R8.ln]; omega), R8.ln] at h2
          have e : jj - (kids ++ [x]).length = 0 := by
            have := (List.getElem?_eq_some_iff.1 h1).1
            simp only [List.length_cons, List.length_nil] at this
            omega
          rw [e] at h1 h2
          simp at h1 h2
          subst h1
          subst h2
          exact Y8.kp hk9) (by rw [hlen9]; omega) (by rw [dps_append]; have := R8.db; omega)
      obtain ⟨D, hD⟩ : ∃ D, dps ((kids ++ [x]) ++ [y]) = D := ⟨_, rfl⟩
      rw [hlen9, hD] at C10
      have HD : Hid _ := hD
      have HC10 : Hid _ := C10
      clear C10 hlen9 hxl hown9 hD
      go_wp2_with fail
      refine Calls.mono HC10.out ?_
      rintro e wfp ⟨rfl, hkf⟩
      clear HC10
      have hkF := hk9.trans hkf
      have hkg : Kp (fun _ => False) wfp (wfp.alloc (.cells #[.int .i64 ((D : Int) + 1), .slice (some ⟨g3, 0, none⟩) (names.length + 1) cap3, .slice (some ⟨g6, 0, none⟩) (ps.length + 1) cap6, .iface T8 t8] 341)) := (Kp.refl _ _).alloc _
      have hbg : (wfp.alloc (.cells #[.int .i64 ((D : Int) + 1), .slice (some ⟨g3, 0, none⟩) (names.length + 1) cap3, .slice (some ⟨g6, 0, none⟩) (ps.length + 1) cap6, .iface T8 t8] 341)).heap[wfp.heap.size]? = some (.cells #[.int .i64 ((D : Int) + 1), .slice (some ⟨g3, 0, none⟩) (names.length + 1) cap3, .slice (some ⟨g6, 0, none⟩) (ps.length + 1) cap6, .iface T8 t8] 341 (0, 0)) := heap_alloc_new _ _
      have hkG := hkF.trans hkg
      have XG : PX (wfp.alloc (.cells #[.int .i64 ((D : Int) + 1), .slice (some ⟨g3, 0, none⟩) (names.length + 1) cap3, .slice (some ⟨g6, 0, none⟩) (ps.length + 1) cap6, .iface T8 t8] 341)) (fun b => w.heap.size ≤ b) (.mk { data := #[114, 101, 99] } (names ++ [(tkAt L Kr).s]) ((kids ++ [x]) ++ [y]) pl) (.iface 274 (.pointer (some ⟨wfp.heap.size, 0, none⟩))) := by
        have hdd : D = max (dps (kids ++ [x])) (dp y) := HD.out.symm.trans (dps_append _ _)
        refine PX.rc _ _ _ _ _ _ _ _ (ps ++ [.iface T5 t5]) (by simp) R8.wd (Nat.le_trans R8.kq.size hkF.size) (hbg.trans (by rw [hdd]; rfl)) ?_ ?_ (fun g hg => (row_own R8.nm hg).1) (fun g hg => (row_own R8.vl hg).1) R8.ln (by rw [List.length_append, List.length_append, HNK.out]; rfl) (fun jj yy p h1 h2 => ((R8.px jj yy p h1 h2).mono (fun b hP _ => hP.1)).kp hkG) (Y8.kp hkG)
        · have := ownsRow_base R8.nm (Nat.zero_le _)
          exact row_same (P := fun _ => True) (fun b _ hb => hkG.block b hb (fun z => z)) (fun _ _ => trivial) this
        · have := ownsRow_base R8.vl (Nat.zero_le _)
          exact row_same (P := fun _ => True) (fun b _ hb => hkG.block b hb (fun z => z)) (fun _ _ => trivial) this
      have FX : Hid (PRet (QX w (.mk { data := #[114, 101, 99] } (names ++ [(tkAt L Kr).s]) ((kids ++ [x]) ++ [y]) pl)) w rb s L K3 (-1) (.returned (.iface 274 (.pointer (some ⟨wfp.heap.size, 0, none⟩)))) (wfp.alloc (.cells #[.int .i64 ((D : Int) + 1), .slice (some ⟨g3, 0, none⟩) (names.length + 1) cap3, .slice (some ⟨g6, 0, none⟩) (ps.length + 1) cap6, .iface T8 t8] 341))) := PRet.ret (Q := QX w (.mk { data := #[114, 101, 99] } (names ++ [(tkAt L Kr).s]) ((kids ++ [x]) ++ [y]) pl)) XG (R8.at'.kp hkG) (R8.kq.trans (Kq.of_kp (S := (· = rb)) hkG (fun _ z => z.elim)))
      clear hkg hbg XG hkG Y8
      go_wp2
      go_ret
      exact FX.out
    · have q := QA.out
      simp only [andM, hM, if_true] at q
      obtain ⟨⟨ns2, ks2, Kd, Bd⟩, q1, q2⟩ := Option.bind_eq_some_iff.1 q
      simp only at q2
      have QN : Hid (boundM L m (names ++ [(tkAt L Kr).s]) (kids ++ [x]) (Kc + 1) (-1) = some (ns2, ks2, Kd, Bd) ∧ andM L m ns2 ks2 Kd Bd = some (nms, kds, K2, B2)) := ⟨q1, q2⟩
      have hkc := isM_lt hE.good hl5 hM (by decide) (by decide)
      have HC4 : Hid _ := px_adv hE R6.at' hkc
      clear q q1 q2 QA hM
      go_wp2_with fail
      refine Calls.mono HC4.out ?_
      intro e w7 hres
      clear HC4
      by_cases hz : 0 ≤ bz L (Kc + 1) (-1)
      · obtain ⟨b, he, hx⟩ := hres.2 hz
        rw [he]
        clear he hres
        go_wp2
        exact ⟨rfl, PRet.up R6.kq hz (fun hz => HFb.out _ _ hz ⟨m, _, _, _, _, _, _, QN.out⟩) ⟨b, rfl, hx⟩⟩
      obtain ⟨_, v, he, hv, P7, kq⟩ := hres.1 (by omega)
      clear hz hres
      subst hv
      subst he
      have R7 := R6.move kq P7
      have HNK2 : Hid ((names ++ [(tkAt L Kr).s]).length = (kids ++ [x]).length) := by
        show _ = _
        rw [List.length_append, List.length_append, HNK.out]
        rfl
      clear R6 a6 P7 kq
      go_wp2
      go_roundg m
      case measure => omega
      case rel => exact ⟨_, _, _, _, _, _, _, _, R7, HNK2, by simp; omega, QN, by omega⟩
end Go.Proofs.YtleenphlgbklmaaGreatDoor
