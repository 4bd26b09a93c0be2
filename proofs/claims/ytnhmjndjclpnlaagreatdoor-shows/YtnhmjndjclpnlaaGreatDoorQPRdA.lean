import Derived.Test.YtnhmjndjclpnlaaGreatDoorQPX
import Derived.Test.YtnhmjndjclpnlaaGreatDoorQPStk
import Derived.Test.YtnhmjndjclpnlaaGreatDoorQRefGood
import Derived.Test.YtnhmjndjclpnlaaGreatDoorQPDep
import Derived.Test.YtnhmjndjclpnlaaGreatDoorQTxt
import Derived.Test.YtnhmjndjclpnlaaGreatDoorQTyMirror
set_option linter.unusedVariables false
set_option linter.unusedSimpArgs false
namespace Go.Proofs.YtnhmjndjclpnlaaGreatDoor
open Go.RowKit

/-- thrown at a place; but for the reader all is as it was. -/
def ThrX (w : World) (rb : Nat) (loc : Int) (e : Ending) (w' : World) : Prop := ∃ b : Nat, e = thrown (.iface 118 (.pointer (some ⟨b, 0, none⟩))) ∧ (∃ n : Nat, loc = n ∧ w'.heap[b]? = some (.cells #[.int .i64 n] 129 (0, 0))) ∧ w.heap.size ≤ b ∧ Kq (· = rb) w w'
/-- behind a step of the reader of expressions: an answer, and where it stands; or thrown, where the fault is. -/
def PRet (Q : World → Value → Prop) (w : World) (rb : Nat) (s : ByteArray) (L : List Tk) (k' : Nat) (bad' : Int) (e : Ending) (w' : World) : Prop :=
  (bz L k' bad' < 0 → bad' = -1 ∧ ∃ v, e = .returned v ∧ Q w' v ∧ PAt w' rb s L k' ∧ Kq (· = rb) w w') ∧ (0 ≤ bz L k' bad' → ThrX w rb (bz L k' bad') e w')
theorem Kq.refl (S : Nat → Prop) (w : World) : Kq S w w := ⟨rfl, rfl, Nat.le_refl _, fun _ _ _ => rfl⟩
theorem ThrX.before {w0 w w' : World} {rb : Nat} {z : Int} {e : Ending} (h : ThrX w rb z e w') (hk : Kq (· = rb) w0 w) : ThrX w0 rb z e w' := by
  obtain ⟨b, h1, h2, h3, h4⟩ := h
  exact ⟨b, h1, h2, Nat.le_trans hk.size h3, hk.trans h4⟩
theorem ThrX.of {w w' : World} {rb loc : Nat} {e : Ending} (h : ThrS w loc e w') : ThrX w rb loc e w' := by
  obtain ⟨b, h1, h2, h3, h4⟩ := h
  exact ⟨b, h1, ⟨loc, rfl, h2⟩, h3, Kq.of_kept h4⟩
theorem PRet.thr {Q : World → Value → Prop} {w w' : World} {rb : Nat} {s : ByteArray} {L : List Tk} {k' : Nat} {bad' : Int} {e : Ending} {z : Int} (h : ThrX w rb z e w') (hz : bz L k' bad' = z) (h0 : 0 ≤ z) : PRet Q w rb s L k' bad' e w' :=
  ⟨fun q => by omega, fun _ => by rw [hz]; exact h⟩
theorem PRet.ret {Q : World → Value → Prop} {w w' : World} {rb : Nat} {s : ByteArray} {L : List Tk} {k' : Nat} {v : Value} (hq : Q w' v) (hP : PAt w' rb s L k') (hK : Kq (· = rb) w w') : PRet Q w rb s L k' (-1) (.returned v) w' :=
  ⟨fun _ => ⟨rfl, v, rfl, hq, hP, hK⟩, fun q => by rw [bz_ok (by omega) hP.nn] at q; omega⟩
theorem PAt.lt' {w : World} {rb : Nat} {s : ByteArray} {L : List Tk} {k : Nat} (h : PAt w rb s L k) : rb < w.heap.size := by
  obtain ⟨kd, e, _⟩ := h.ex
  exact lt_of_block e
theorem bz_at {w : World} {rb : Nat} {s : ByteArray} {L : List Tk} {k : Nat} (h : PAt w rb s L k) : bz L k (-1) = -1 := bz_ok (by omega) h.nn
theorem need_true {L : List Tk} {q : ByteArray} {k : Nat} (h : isM L q k (-1) = true) : takeK L q k (-1) = k + 1 ∧ needB L q k (-1) = -1 := by
  unfold takeK needB
  rw [h]
  exact ⟨rfl, rfl⟩
theorem need_false {L : List Tk} {q : ByteArray} {k : Nat} (h : isM L q k (-1) = false) : takeK L q k (-1) = k ∧ needB L q k (-1) = (tkAt L k).loc := by
  unfold takeK needB
  rw [h]
  exact ⟨rfl, rfl⟩

section
variable {s : ByteArray} {kws : List ByteArray} {L : List Tk} (hE : PEnv s kws L) {w : World} {rb k : Nat}
include hE
theorem px_adv (h : PAt w rb s L k) (h1 : k + 1 < L.length) : Calls Tryz.prog 118 #[.pointer (some ⟨rb, 0, none⟩)] w fun e w' => PRet (fun _ v => v = .tuple #[]) w rb s L (k + 1) (-1) e w' := by
  by_cases hn : (tkAt L (k + 1)).is = { data := #[110, 111, 110, 101] }
  · refine (at_advN hE h h1 hn).mono ?_
    intro e w' ht
    exact PRet.thr (ThrX.of ht) (bz_none (by omega) hn) (by omega)
  · refine (at_adv hE h h1 hn).mono ?_
    rintro e w' ⟨rfl, hK, hP⟩
    exact PRet.ret rfl hP (Kq.of_kp hK (fun _ e => e))
theorem px_expect (h : PAt w rb s L k) (q : ByteArray) (hq : q ∈ kws ∨ isSgn q) (h1 : q.data.toList ≠ ({ data := #[101, 110, 100] } : ByteArray).data.toList) (h2 : q.data.toList ≠ ({ data := #[110, 111, 110, 101] } : ByteArray).data.toList) : Calls Tryz.prog 163 #[.pointer (some ⟨rb, 0, none⟩), .string q] w fun e w' => PRet (fun _ v => v = .tuple #[]) w rb s L (takeK L q k (-1)) (needB L q k (-1)) e w' := by
  cases hM : isM L q k (-1)
  · rw [(need_false hM).1, (need_false hM).2]
    refine (at_expB hE h q hq hM).mono ?_
    intro e w' ht
    exact PRet.thr (ThrX.of ht) (bz_ge (by omega)) (by omega)
  · rw [(need_true hM).1, (need_true hM).2]
    have hk := isM_lt hE.good h.lt hM h1 h2
    by_cases hn : (tkAt L (k + 1)).is = { data := #[110, 111, 110, 101] }
    · refine (at_expN hE h q hq hk hM hn).mono ?_
      intro e w' ht
      exact PRet.thr (ThrX.of ht) (bz_none (by omega) hn) (by omega)
    · refine (at_exp hE h q hq hk hM hn).mono ?_
      rintro e w' ⟨rfl, hK, hP⟩
      exact PRet.ret rfl hP (Kq.of_kp hK (fun _ e => e))
end
end Go.Proofs.YtnhmjndjclpnlaaGreatDoor

namespace Go.Proofs.YtnhmjndjclpnlaaGreatDoor
open Go.RowKit

/-- the words of expressions. -/
def wordsL : List ByteArray := [{ data := #[102, 117, 110] }, { data := #[108, 101, 116] }, { data := #[114, 101, 99] }, { data := #[97, 110, 100] }, { data := #[105, 110] }, { data := #[105, 102] }, { data := #[116, 104, 101, 110] }, { data := #[101, 108, 115, 101] }]
theorem wordsOk : KwOk wordsL := by
  refine ⟨fun w hw => ?_, fun w hw => ?_⟩
  · simp only [wordsL, List.mem_cons, List.not_mem_nil, or_false] at hw
    rcases hw with rfl | rfl | rfl | rfl | rfl | rfl | rfl | rfl <;> exact ⟨ne_of_list (by decide), ne_of_list (by decide), ne_of_list (by decide), ne_of_list (by decide)⟩
  · simp only [wordsL, List.mem_cons, List.not_mem_nil, or_false] at hw
    rcases hw with rfl | rfl | rfl | rfl | rfl | rfl | rfl | rfl <;> decide
theorem sameS_f {a b : ByteArray} (h : a ≠ b) : sameS a b = false := by
  rw [Bool.eq_false_iff]
  intro e
  exact h ((sameS_iff a b).1 e)
theorem wd_chr {t : ByteArray} (h : lowI (chr t 0) = true ∨ figI (chr t 0) = true) : Wd t := by
  have ne : ∀ q : ByteArray, lowI (chr q 0) = false → figI (chr q 0) = false → sameS t q = false := fun q h1 h2 => sameS_f (fun e => by
    rw [e, h1, h2] at h
    rcases h with h | h <;> cases h)
  exact ⟨by unfold opn; rw [ne _ (by decide) (by decide), ne _ (by decide) (by decide)]; rfl, by unfold cls; rw [ne _ (by decide) (by decide), ne _ (by decide) (by decide)]; rfl⟩
/-- the program's kind of a token, and the document's. -/
theorem tk_kind {s : ByteArray} {kws : List ByteArray} {L : List Tk} (hE : PEnv s kws L) {k kd0 : Nat} (hk : k < L.length) (hT : pTok s (tkAt L k).loc = some (kd0, (tkAt L k).s, (tkAt L k).loc + (tkAt L k).s.size)) :
    (((kd0 == 1) && !kwIn kws (tkAt L k).s) = sameS (tkAt L k).is { data := #[110, 97, 109, 101] }) ∧ ((kd0 == 2) = sameS (tkAt L k).is { data := #[110, 117, 109] }) ∧ ((tkAt L k).is = { data := #[110, 97, 109, 101] } ∨ (tkAt L k).is = { data := #[110, 117, 109] } → Wd (tkAt L k).s) := by
  have l := (tk_link hE.kw hE.eq k hk)
  have hle := l.1
  have l := l.2
  generalize tkAt L k = t at *
  cases l with
  | fin a b c d e =>
    rw [d] at hT
    simp only [Option.some.injEq, Prod.mk.injEq] at hT
    rw [← hT.1, b]
    refine ⟨by rw [sameS_f (ne_of_list (by decide))]; rfl, by rw [sameS_f (ne_of_list (by decide))]; rfl, fun q => ?_⟩
    rcases q with q | q <;> exact absurd q (ne_of_list (by decide))
  | bad a b => rw [b] at hT; cases hT
  | word a b c d =>
    have c' := c
    rw [c] at hT
    simp only [Option.some.injEq, Prod.mk.injEq] at hT
    rw [← hT.1, d]
    unfold pTok at c
    rw [if_pos a, if_pos b] at c
    split at c
    · simp only [Option.some.injEq, Prod.mk.injEq] at c
      obtain ⟨_, c2, c3⟩ := c
      have hw : Wd t.s := wd_chr (.inl (by rw [← c2, chr0_extract s _ _ (run_gt lfI s _ a (by simp [lfI, b])) (run_le lfI s _ (by omega)), b]))
      by_cases q : kwIn kws t.s = true
      · rw [q, if_pos rfl]
        have hn := hE.kw.ne _ (kwIn_mem q)
        exact ⟨by rw [sameS_f hn.1]; rfl, by rw [sameS_f hn.2.2.2]; rfl, fun _ => hw⟩
      · have q : kwIn kws t.s = false := by simpa using q
        rw [q, if_neg (by simp)]
        exact ⟨by rw [(sameS_iff _ _).2 rfl]; rfl, by rw [sameS_f (ne_of_list (by decide))]; rfl, fun _ => hw⟩
    · cases c
  | num a b c d e =>
    have d' := d
    rw [d] at hT
    simp only [Option.some.injEq, Prod.mk.injEq] at hT
    rw [← hT.1, e]
    unfold pTok at d
    rw [if_pos a, if_neg (by simp [b]), if_pos c] at d
    split at d
    · simp only [Option.some.injEq, Prod.mk.injEq] at d
      obtain ⟨_, c2, c3⟩ := d
      have hw : Wd t.s := wd_chr (.inr (by rw [← c2, chr0_extract s _ _ (run_gt figI s _ a c) (run_le figI s _ (by omega)), c]))
      exact ⟨by rw [sameS_f (ne_of_list (by decide))]; rfl, by rw [(sameS_iff _ _).2 rfl]; rfl, fun _ => hw⟩
    · cases d
  | sign a b c d e f =>
    rw [d] at hT
    simp only [Option.some.injEq, Prod.mk.injEq] at hT
    have h1 : t.is ≠ { data := #[110, 97, 109, 101] } ∧ t.is ≠ { data := #[110, 117, 109] } := by
      rw [e]
      rcases f with f | ⟨_, f, _⟩
      · rw [f]; exact ⟨ne_of_list (by decide), ne_of_list (by decide)⟩
      · rw [f]
        refine ⟨fun q => ?_, fun q => ?_⟩
        · have q := congrArg (fun x => x.size) q
          have q : (1 : Nat) = 4 := q
          omega
        · have q := congrArg (fun x => x.size) q
          have q : (1 : Nat) = 3 := q
          omega
    rw [← hT.1]
    exact ⟨by rw [sameS_f h1.1]; rfl, by rw [sameS_f h1.2]; rfl, fun q => by rcases q with q | q; exact absurd q h1.1; exact absurd q h1.2⟩
theorem isM_same {L : List Tk} {q : ByteArray} {k : Nat} : isM L q k (-1) = sameS (tkAt L k).is q := by
  unfold isM sameS
  rfl
end Go.Proofs.YtnhmjndjclpnlaaGreatDoor

namespace Go.Proofs.YtnhmjndjclpnlaaGreatDoor
open Go.RowKit

theorem kwIn_words (t : ByteArray) : kwIn wordsL t = (sameS t { data := #[102, 117, 110] } || (sameS t { data := #[108, 101, 116] } || (sameS t { data := #[114, 101, 99] } || (sameS t { data := #[97, 110, 100] } || (sameS t { data := #[105, 110] } || (sameS t { data := #[105, 102] } || (sameS t { data := #[116, 104, 101, 110] } || sameS t { data := #[101, 108, 115, 101] }))))))) := by
  simp [kwIn, wordsL]
set_option maxRecDepth 20000 in
theorem pkw_any (t : ByteArray) (w : World) : Calls Tryz.prog 183 #[.string t] w fun e w' => e = .returned (.bool (kwIn wordsL t)) ∧ w' = w := by
  rw [kwIn_words]
  have e : ∀ q : ByteArray, sameS t q = (t.toList == q.data.toList) := fun q => by unfold sameS; rw [ByteArray.toList_eq]
  simp only [e]
  clear e
  go_enter Tryz.func183, Tryz.ntmps183
  go_wp2
  all_goals
    go_ret
    refine ⟨?_, rfl⟩
    simp_all
set_option maxRecDepth 20000 in
set_option maxHeartbeats 1000000 in
theorem pidx_any (names : List ByteArray) (x : ByteArray) (w : World) (nv : Value) (h : w.ownsRow 0 9 1 nv names.length (names.map Value.string)) :
    Calls Tryz.prog 204 #[nv, .string x] w fun e w' => (∃ r : Int, e = .returned (.int .i64 r) ∧ decide (0 ≤ r) = names.any (fun m => sameS m x)) ∧ w' = w := by
  have h' : w.ownsRow 0 9 1 nv (names.map Value.string).length (names.map Value.string) := by rw [List.length_map]; exact h
  obtain ⟨ao, cap, rfl, hrow⟩ := row_form h'
  have hml : names.length ≤ 9223372036854775807 := by
    rcases h.2 with ⟨e1, e2⟩ | ⟨g, c', cur, e1, _, _, e4, e5, _⟩
    · omega
    · unfold maxLen at e5; omega
  rw [List.length_map] at hrow ⊢
  clear h h'
  go_enter Tryz.func204, Tryz.ntmps204
  go_wp2
  go_loop [8] (fun i => ∃ q : Nat, q ≤ names.length ∧ i = .int .i64 q ∧ (names.take q).any (fun m => sameS m x) = false) (fun i => names.length - (intOf i).toNat)
  case atStart => exact ⟨0, Nat.zero_le _, rfl, by simp⟩
  case round =>
    obtain ⟨q, hq, rfl, hno⟩ := hrel
    by_cases hlt : q < names.length
    · obtain ⟨g, rfl, hc⟩ := hrow q hlt
      have hc2 : w.cell? ⟨g, q, none⟩ = some (.string names[q]) := by rw [hc]; simp [hlt]
      have hst : Hid ((names.take (q + 1)).any (fun m => sameS m x) = sameS names[q] x) := by
        show _ = _
        rw [List.take_succ_eq_append_getElem hlt, List.any_append, hno]
        simp
      have hmem : Hid (sameS names[q] x = true → names.any (fun m => sameS m x) = true) := fun e => List.any_eq_true.2 ⟨_, List.getElem_mem hlt, e⟩
      have hS : Hid (sameS names[q] x = (x.toList == (names[q]).toList)) := by
        show _ = _
        unfold sameS
        rw [ByteArray.toList_eq, ByteArray.toList_eq, Bool.beq_comm]
      clear hc hrow hno
      generalize names[q] = y at *
      cases hb : (x.toList == y.toList)
      · go_wp2
        go_round
        case rel => exact ⟨q + 1, by omega, by go_num, by rw [hst.out, hS.out, hb]⟩
        case measure => simp [intOf]; omega
      · go_wp2
        go_ret
        exact ⟨⟨q, rfl, by rw [hmem.out (by rw [hS.out, hb])]; simp⟩, rfl⟩
    · have hq2 : q = names.length := by omega
      have hk : Hid (names.any (fun m => sameS m x) = false) := by show _ = _; rw [hq2, List.take_length] at hno; exact hno
      clear hrow hno hq2
      go_wp2
      go_ret
      exact ⟨⟨-1, rfl, by rw [hk.out]; rfl⟩, rfl⟩
theorem pcon_any (names : List ByteArray) (x : ByteArray) (w : World) (nv : Value) (h : w.ownsRow 0 9 1 nv names.length (names.map Value.string)) :
    Calls Tryz.prog 193 #[nv, .string x] w fun e w' => e = .returned (.bool (names.any (fun m => sameS m x))) ∧ w' = w := by
  have H : Hid _ := pidx_any names x w nv h
  obtain ⟨ao, cap, rfl⟩ : ∃ ao cap, nv = .slice ao names.length cap := by
    rcases h.2 with ⟨e1, e2⟩ | ⟨g, cap, cur, e1, _⟩
    · exact ⟨none, 0, by rw [e1, e2]⟩
    · exact ⟨_, cap, e1⟩
  clear h
  go_enter Tryz.func193, Tryz.ntmps193
  go_wp2_with fail
  refine Calls.mono H.out ?_
  rintro e w' ⟨⟨r, rfl, hr⟩, hw⟩
  rw [hw]
  have HR : Hid _ := hr
  clear H hw hr
  go_wp2
  go_ret
  exact ⟨by rw [← HR.out]; rfl, rfl⟩
end Go.Proofs.YtnhmjndjclpnlaaGreatDoor

namespace Go.Proofs.YtnhmjndjclpnlaaGreatDoor
open Go.RowKit

theorem PAt.kp {w w' : World} {rb : Nat} {s : ByteArray} {L : List Tk} {k : Nat} (h : PAt w rb s L k) (hk : Kp (fun _ => False) w w') : PAt w' rb s L k := by
  obtain ⟨kd, h1, h2⟩ := h.ex
  exact ⟨⟨kd, hk.blk h1 (fun z => z), h2⟩, h.lt, h.nn⟩
section
variable {s : ByteArray} {L : List Tk} (hE : PEnv s wordsL L) {w : World} {rb k : Nat}
include hE
set_option maxRecDepth 20000 in
set_option maxHeartbeats 1000000 in
theorem patname (h : PAt w rb s L k) : Calls Tryz.prog 192 #[.agg #[.pointer (some ⟨rb, 0, none⟩)]] w fun e w' => e = .returned (.bool (isM L { data := #[110, 97, 109, 101] } k (-1))) ∧ Kp (fun _ => False) w w' := by
  have hk0 : Kp (fun _ => False) w (w.alloc (.cells #[.pointer (some ⟨rb, 0, none⟩)] 160)) := (Kp.refl _ _).alloc _
  have hc0 : (w.alloc (.cells #[.pointer (some ⟨rb, 0, none⟩)] 160)).heap[w.heap.size]? = some (.cells #[.pointer (some ⟨rb, 0, none⟩)] 160 (0, 0)) := heap_alloc_new _ _
  have h0 : PAt (w.alloc (.cells #[.pointer (some ⟨rb, 0, none⟩)] 160)) rb s L k := h.kp hk0
  have hrl := h.lt'
  generalize hw0 : w.alloc (.cells #[.pointer (some ⟨rb, 0, none⟩)] 160) = w0 at *
  have a0 : w0.cell? ⟨w.heap.size, 0, none⟩ = some (.pointer (some ⟨rb, 0, none⟩)) := by simp [World.cell?, hc0]
  obtain ⟨kd, hr, hT⟩ := h0.ex
  have hK := (tk_kind hE h.lt hT).1
  rw [isM_same]
  obtain ⟨_, c1, c2, c3⟩ := hr.c
  have HK : Hid _ := hK
  clear hK hr hT h h0 c2
  generalize (tkAt L k).s = t at *
  by_cases hkd : kd = 1
  · subst hkd
    go_enter Tryz.func192, Tryz.ntmps192
    go_wp2_with (go_at_call 183; refine (pkw_any _ _).mono ?_; rintro e w' ⟨rfl, rfl⟩)
    go_ret
    exact ⟨by rw [← HK.out]; rfl, hk0⟩
  · have hz : ((kd : Int) == 1) = false := by simp; omega
    have HZ : Hid ((kd == 1) = false) := by show _ = _; simp [hkd]
    clear hkd
    go_enter Tryz.func192, Tryz.ntmps192
    go_wp2_with (go_at_call 183; refine (pkw_any _ _).mono ?_; rintro e w' ⟨rfl, rfl⟩)
    go_ret
    exact ⟨by rw [← HK.out, HZ.out]; rfl, hk0⟩
set_option maxRecDepth 20000 in
set_option maxHeartbeats 1000000 in
theorem patatom (h : PAt w rb s L k) : Calls Tryz.prog 168 #[.agg #[.pointer (some ⟨rb, 0, none⟩)]] w fun e w' => e = .returned (.bool (isM L { data := #[110, 97, 109, 101] } k (-1) || isM L { data := #[110, 117, 109] } k (-1) || isM L { data := #[40] } k (-1))) ∧ Kp (fun _ => False) w w' := by
  have hk0 : Kp (fun _ => False) w (w.alloc (.cells #[.pointer (some ⟨rb, 0, none⟩)] 160)) := (Kp.refl _ _).alloc _
  have hc0 : (w.alloc (.cells #[.pointer (some ⟨rb, 0, none⟩)] 160)).heap[w.heap.size]? = some (.cells #[.pointer (some ⟨rb, 0, none⟩)] 160 (0, 0)) := heap_alloc_new _ _
  have h0 : PAt (w.alloc (.cells #[.pointer (some ⟨rb, 0, none⟩)] 160)) rb s L k := h.kp hk0
  have hrl := h.lt'
  generalize hw0 : w.alloc (.cells #[.pointer (some ⟨rb, 0, none⟩)] 160) = w0 at *
  have a0 : w0.cell? ⟨w.heap.size, 0, none⟩ = some (.pointer (some ⟨rb, 0, none⟩)) := by simp [World.cell?, hc0]
  obtain ⟨kd, hr, hT⟩ := h0.ex
  have hK := (tk_kind hE h.lt hT).2.1
  rw [← isM_same] at hK
  obtain ⟨_, c1, c2, c3⟩ := hr.c
  have HN : Hid _ := patname hE h0
  have HI : Hid (∀ w', Kp (fun _ => False) w0 w' → Calls Tryz.prog 119 #[.pointer (some ⟨rb, 0, none⟩), .string { data := #[40] }] w' fun e w'' => e = .returned (.bool (isM L { data := #[40] } k (-1))) ∧ w'' = w') := fun w' hk => at_is hE (h0.kp hk) { data := #[40] } (.inr (.inr ⟨40, rfl, rfl⟩))
  have HR : Hid (∀ w', Kp (fun _ => False) w0 w' → w'.cell? ⟨rb, 1, none⟩ = some (.int .i64 kd) ∧ w'.cell? ⟨w.heap.size, 0, none⟩ = some (.pointer (some ⟨rb, 0, none⟩))) := fun w' hk => ⟨hk.cell c1 (fun z => z), hk.cell a0 (fun z => z)⟩
  have HZ : Hid (((kd : Int) == 2) = isM L { data := #[110, 117, 109] } k (-1)) := by
    show _ = _
    rw [← hK]
    by_cases q : kd = 2
    · subst q; rfl
    · have e1 : ((kd : Int) == 2) = false := by simp; omega
      have e2 : (kd == 2) = false := by simp [q]
      rw [e1, e2]
  clear hK hr hT h h0 c2
  generalize isM L { data := #[110, 97, 109, 101] } k (-1) = b1 at *
  generalize isM L { data := #[110, 117, 109] } k (-1) = b2 at *
  generalize isM L { data := #[40] } k (-1) = b3 at *
  cases b1 <;> cases b2 <;> have hz := HZ.out
  all_goals
    go_enter Tryz.func168, Tryz.ntmps168
    go_wp2_with fail
    refine Calls.mono HN.out ?_
    rintro e w1 ⟨rfl, hk1⟩
    obtain ⟨r1, r2⟩ := HR.out w1 hk1
    have HI1 : Hid _ := HI.out w1 hk1
    clear HN
    go_wp2_with (go_at_call 119; refine Calls.mono HI1.out ?_; rintro e w' ⟨rfl, rfl⟩)
    go_ret
    exact ⟨by first | rfl | simp, hk0.trans hk1⟩
set_option maxRecDepth 20000 in
set_option maxHeartbeats 1000000 in
theorem pnewname (h : PAt w rb s L k) (names : List ByteArray) (nv : Value) (hn : w.ownsRow 0 9 1 nv names.length (names.map Value.string)) :
    Calls Tryz.prog 164 #[.agg #[.pointer (some ⟨rb, 0, none⟩)], nv] w fun e w' => PRet (fun _ v => v = .string (tkAt L k).s ∧ Wd (tkAt L k).s) w rb s L (takeK L { data := #[110, 97, 109, 101] } k (-1)) (dupB names (tkAt L k).s (tkAt L k).loc (needB L { data := #[110, 97, 109, 101] } k (-1))) e w' := by
  obtain ⟨ao, cap, rfl⟩ : ∃ ao cap, nv = .slice ao names.length cap := by
    rcases hn.2 with ⟨e1, e2⟩ | ⟨g, cap, cur, e1, _⟩
    · exact ⟨none, 0, by rw [e1, e2]⟩
    · exact ⟨_, cap, e1⟩
  have hk0 : Kp (fun _ => False) w (w.alloc (.cells #[.pointer (some ⟨rb, 0, none⟩)] 160)) := (Kp.refl _ _).alloc _
  have hc0 : (w.alloc (.cells #[.pointer (some ⟨rb, 0, none⟩)] 160)).heap[w.heap.size]? = some (.cells #[.pointer (some ⟨rb, 0, none⟩)] 160 (0, 0)) := heap_alloc_new _ _
  have h0 : PAt (w.alloc (.cells #[.pointer (some ⟨rb, 0, none⟩)] 160)) rb s L k := h.kp hk0
  have hrl := h.lt'
  generalize hw0 : w.alloc (.cells #[.pointer (some ⟨rb, 0, none⟩)] 160) = w0 at *
  have a0 : w0.cell? ⟨w.heap.size, 0, none⟩ = some (.pointer (some ⟨rb, 0, none⟩)) := by simp [World.cell?, hc0]
  obtain ⟨kd, hr, hT⟩ := h0.ex
  have hWd := (tk_kind hE h.lt hT).2.2
  obtain ⟨_, c1, c2, c3⟩ := hr.c
  have HN : Hid _ := patname hE h0
  have HC : Hid (∀ w', Kp (fun _ => False) w0 w' → Calls Tryz.prog 193 #[.slice ao names.length cap, .string (tkAt L k).s] w' fun e w'' => e = .returned (.bool (names.any (fun m => sameS m (tkAt L k).s))) ∧ w'' = w') := fun w' hk => pcon_any names _ w' _ (row_same (P := fun _ => True) (fun b _ hb => (hk0.trans hk).block b hb (fun z => z)) (fun _ _ => trivial) hn)
  have HX : Hid (∀ w', Kp (fun _ => False) w0 w' → Calls Tryz.prog 124 #[.pointer (some ⟨rb, 0, none⟩)] w' fun e w'' => ThrS w' (tkAt L k).loc e w'') := fun w' hk => (by obtain ⟨kdx, e1, _⟩ := (h0.kp hk).ex; exact prr_any w' rb s _ kdx _ e1)
  have HR : Hid (∀ w', Kp (fun _ => False) w0 w' → w'.cell? ⟨w.heap.size, 0, none⟩ = some (.pointer (some ⟨rb, 0, none⟩))) := fun w' hk => hk.cell a0 (fun z => z)
  have hkq : ∀ w', Kp (fun _ => False) w0 w' → Kq (· = rb) w w' := fun w' hk => Kq.of_kp (hk0.trans hk) (fun _ z => z.elim)
  have HQ : Hid _ := hkq
  clear hkq
  cases hM : isM L { data := #[110, 97, 109, 101] } k (-1)
  · rw [(need_false hM).1, (need_false hM).2, dup_ge (by omega)]
    rw [hM] at HN
    clear hr hT h h0 c2 hWd hn
    go_enter Tryz.func164, Tryz.ntmps164
    go_wp2_with fail
    refine Calls.mono HN.out ?_
    rintro e w1 ⟨rfl, hk1⟩
    have r1 := HR.out w1 hk1
    clear HN
    go_wp2_with fail
    refine Calls.mono (HX.out w1 hk1) ?_
    rintro e w2 ⟨b, he, hx1, hx2, hx3⟩
    rw [he]
    clear he
    go_wp2
    exact ⟨rfl, PRet.thr (ThrX.before (ThrX.of ⟨b, rfl, hx1, hx2, hx3⟩) (HQ.out w1 hk1)) (bz_ge (by omega)) (by omega)⟩
  · have hWd := hWd (.inl (is_name hM))
    have hk := isM_lt hE.good h.lt hM (by decide) (by decide)
    rw [(need_true hM).1, (need_true hM).2]
    rw [hM] at HN
    have hany : names.any (fun m => m.data.toList == (tkAt L k).s.data.toList) = names.any (fun m => sameS m (tkAt L k).s) := rfl
    unfold dupB
    rw [hany]
    cases hd : names.any (fun m => sameS m (tkAt L k).s)
    · rw [if_neg (by simp)]
      have HA : Hid (∀ w', Kp (fun _ => False) w0 w' → Calls Tryz.prog 118 #[.pointer (some ⟨rb, 0, none⟩)] w' fun e w'' => PRet (fun _ v => v = .tuple #[]) w' rb s L (k + 1) (-1) e w'') := fun w' hkw => px_adv hE (h0.kp hkw) hk
      rw [hd] at HC
      clear hr hT h h0 c2 hn hany
      go_enter Tryz.func164, Tryz.ntmps164
      go_wp2_with fail
      refine Calls.mono HN.out ?_
      rintro e w1 ⟨rfl, hk1⟩
      have r1 := HR.out w1 hk1
      clear HN
      go_wp2_with fail
      refine Calls.mono (HC.out w1 hk1) ?_
      rintro e w' ⟨rfl, hww⟩
      rw [hww]
      clear hww w'
      go_wp2_with fail
      refine Calls.mono (HA.out w1 hk1) ?_
      intro e w2 hres
      by_cases hz : 0 ≤ bz L (k + 1) (-1)
      · obtain ⟨b, he, hx⟩ := hres.2 hz
        rw [he]
        clear he hres
        go_wp2
        exact ⟨rfl, PRet.thr (ThrX.before ⟨b, rfl, hx⟩ (HQ.out w1 hk1)) rfl hz⟩
      · obtain ⟨_, v, he, hv, hP, hK⟩ := hres.1 (by omega)
        subst hv
        rw [he]
        clear he hres
        go_wp2
        go_ret
        exact PRet.ret (v := .string (tkAt L k).s) ⟨rfl, hWd⟩ hP ((HQ.out w1 hk1).trans hK)
    · rw [if_pos (by simp)]
      rw [hd] at HC
      clear hr hT h h0 c2 hn hany
      go_enter Tryz.func164, Tryz.ntmps164
      go_wp2_with fail
      refine Calls.mono HN.out ?_
      rintro e w1 ⟨rfl, hk1⟩
      have r1 := HR.out w1 hk1
      clear HN
      go_wp2_with fail
      refine Calls.mono (HC.out w1 hk1) ?_
      rintro e w' ⟨rfl, hww⟩
      rw [hww]
      clear hww w'
      go_wp2_with fail
      refine Calls.mono (HX.out w1 hk1) ?_
      rintro e w2 ⟨b, he, hx1, hx2, hx3⟩
      rw [he]
      clear he
      go_wp2
      exact ⟨rfl, PRet.thr (ThrX.before (ThrX.of ⟨b, rfl, hx1, hx2, hx3⟩) (HQ.out w1 hk1)) (bz_ge (by omega)) (by omega)⟩
end
end Go.Proofs.YtnhmjndjclpnlaaGreatDoor

namespace Go.Proofs.YtnhmjndjclpnlaaGreatDoor
open Go.RowKit

theorem dp_tw (x : X) : dp x ≤ tw x := by
  induction x using X.ind with
  | h op names kids loc ih =>
    have h : ∀ ks : List X, (∀ y, y ∈ ks → dp y ≤ tw y) → dps ks ≤ tws ks := by
      intro ks
      induction ks with
      | nil => intro _; simp [dps]
      | cons y ys ihy =>
        intro h
        have h1 := h y (by simp)
        have h2 := ihy (fun z hz => h z (by simp [hz]))
        simp only [dps, tws]
        omega
    have := h kids ih
    simp only [dp, tw]
    omega
theorem PX.kq {w w' : World} {P : Nat → Prop} {x : X} {v : Value} {rb : Nat} (h : PX w P x v) (hP : ∀ b, P b → b ≠ rb) (hk : Kq (· = rb) w w') : PX w' P x v := h.keep (fun b hb hl => hk.block b hl (fun z => hP b hb z))
/-- an expression that was read: all of it is new. -/
def QX (w0 : World) (x : X) : World → Value → Prop := fun w' v => PX w' (fun b => w0.heap.size ≤ b) x v
def SE (s : ByteArray) (L : List Tk) (n : Nat) : Prop := ∀ (w : World) (rb k : Nat) (x : X) (k' : Nat) (bad' : Int), PAt w rb s L k → expM L n k (-1) = some (x, k', bad') →
  Calls Tryz.prog 88 #[.agg #[.pointer (some ⟨rb, 0, none⟩)]] w fun e w' => PRet (QX w x) w rb s L k' bad' e w'
def SA (s : ByteArray) (L : List Tk) (n : Nat) : Prop := ∀ (w : World) (rb k : Nat) (x : X) (k' : Nat) (bad' : Int), PAt w rb s L k → atomM L n k (-1) = some (x, k', bad') →
  Calls Tryz.prog 167 #[.agg #[.pointer (some ⟨rb, 0, none⟩)]] w fun e w' => PRet (QX w x) w rb s L k' bad' e w'
theorem PRet.up {Q : World → Value → Prop} {w w1 w' : World} {rb : Nat} {s : ByteArray} {L : List Tk} {k1 k' : Nat} {b1 bad' : Int} {e : Ending} (hK : Kq (· = rb) w w1) (hz : 0 ≤ bz L k1 b1) (hF : 0 ≤ bz L k1 b1 → bz L k' bad' = bz L k1 b1) (h : ThrX w1 rb (bz L k1 b1) e w') : PRet Q w rb s L k' bad' e w' := PRet.thr (h.before hK) (hF hz) hz
theorem sticks {L : List Tk} {k0 k1 k' : Nat} {b0 b1 b' : Int} (S : 0 ≤ bz L k0 b0 → bz L k1 b1 = bz L k0 b0) (F : 0 ≤ bz L k1 b1 → bz L k' b' = bz L k1 b1) : 0 ≤ bz L k0 b0 → bz L k' b' = bz L k0 b0 := fun hz => (F (by rw [S hz]; exact hz)).trans (S hz)
/-- the text's bounds. -/
structure PB (L : List Tk) : Prop where
  len : L.length ≤ 301
  sz : ∀ k, (tkAt L k).s.size ≤ 300
theorem PEnv.pb {s : ByteArray} {kws : List ByteArray} {L : List Tk} (h : PEnv s kws L) : PB L := by
  have h1 := h.sz
  refine ⟨?_, fun k => ?_⟩
  · rw [h.eq]
    have := toks_len s kws (s.size + 1) 0
    omega
  · rw [h.eq]
    have := toks_size s kws (s.size + 1) 0 k
    omega
theorem PB.dp {L : List Tk} (h : PB L) {n k : Nat} {bad : Int} {x : X} {k' : Nat} {b' : Int} (hM : expM L n k bad = some (x, k', b')) (hb : b' < 0) (hk : k' < L.length) : Go.Proofs.YtnhmjndjclpnlaaGreatDoor.dp x ≤ 200000 := by
  have h1 := (made L h.sz n).e _ _ _ _ _ hM hb
  have h2 := dp_tw x
  have := h.len
  omega
theorem pnewname0 {s : ByteArray} {L : List Tk} (hE : PEnv s wordsL L) {w : World} {rb k : Nat} (h : PAt w rb s L k) :
    Calls Tryz.prog 164 #[.agg #[.pointer (some ⟨rb, 0, none⟩)], .slice none 0 0] w fun e w' => PRet (fun _ v => v = .string (tkAt L k).s ∧ Wd (tkAt L k).s) w rb s L (takeK L { data := #[110, 97, 109, 101] } k (-1)) (needB L { data := #[110, 97, 109, 101] } k (-1)) e w' := by
  have := pnewname hE h [] (.slice none 0 0) (World.ownsRow_nil _ _ _ _)
  have e : dupB [] (tkAt L k).s (tkAt L k).loc (needB L { data := #[110, 97, 109, 101] } k (-1)) = needB L { data := #[110, 97, 109, 101] } k (-1) := by simp [dupB]
  rw [e] at this
  exact this
theorem above1 {w : World} {P : Nat → Prop} {x : X} {T : TypeId} {u : Value} (hx : PX w P x (.iface T u)) (hd : dp x ≤ 200000) :
    Calls Tryz.prog 165 #[.slice (some ⟨w.heap.size, 0, none⟩) 1 1] (w.alloc (.cells #[.iface T u] 114)) fun e w' => e = .returned (.agg #[.int .i64 (dp x + 1 : Nat)]) ∧ Kp (fun _ => False) w w' := by
  have hk : Kp (fun _ => False) w (w.alloc (.cells #[.iface T u] 114)) := (Kp.refl _ _).alloc _
  have hc : (w.alloc (.cells #[.iface T u] 114)).heap[w.heap.size]? = some (.cells #[.iface T u] 114 (0, 0)) := heap_alloc_new _ _
  have := above_any [x] [.iface T u] w.heap.size 1 (w.alloc (.cells #[.iface T u] 114)) P rfl (by
    intro j hj
    have : j = 0 := by simpa using hj
    subst this
    simp only [World.cell?, hc]
    rfl) (by
    intro j y p h1 h2
    match j, h1, h2 with
    | 0, h1, h2 => simp at h1 h2; subst h1; subst h2; exact hx.kp hk) (by simp) (by simp [dps]; omega)
  refine this.mono ?_
  rintro e w' ⟨rfl, hk2⟩
  exact ⟨by simp [dps], hk.trans hk2⟩
theorem above2 {w : World} {P : Nat → Prop} {x y : X} {T T2 : TypeId} {u u2 : Value} (hx : PX w P x (.iface T u)) (hy : PX w P y (.iface T2 u2)) (hd : dp x ≤ 200000) (hd2 : dp y ≤ 200000) :
    Calls Tryz.prog 165 #[.slice (some ⟨w.heap.size, 0, none⟩) 2 2] (w.alloc (.cells #[.iface T u, .iface T2 u2] 114)) fun e w' => e = .returned (.agg #[.int .i64 (max (dp x) (dp y) + 1 : Nat)]) ∧ Kp (fun _ => False) w w' := by
  have hk : Kp (fun _ => False) w (w.alloc (.cells #[.iface T u, .iface T2 u2] 114)) := (Kp.refl _ _).alloc _
  have hc : (w.alloc (.cells #[.iface T u, .iface T2 u2] 114)).heap[w.heap.size]? = some (.cells #[.iface T u, .iface T2 u2] 114 (0, 0)) := heap_alloc_new _ _
  have := above_any [x, y] [.iface T u, .iface T2 u2] w.heap.size 2 (w.alloc (.cells #[.iface T u, .iface T2 u2] 114)) P rfl (by
    intro j hj
    match j, hj with
    | 0, _ => simp only [World.cell?, hc]; rfl
    | 1, _ => simp only [World.cell?, hc]; rfl) (by
    intro j z p h1 h2
    match j, h1, h2 with
    | 0, h1, h2 => simp at h1 h2; subst h1; subst h2; exact hx.kp hk
    | 1, h1, h2 => simp at h1 h2; subst h1; subst h2; exact hy.kp hk) (by simp) (by simp [dps]; omega)
  refine this.mono ?_
  rintro e w' ⟨rfl, hk2⟩
  exact ⟨by simp [dps], hk.trans hk2⟩
theorem above3 {w : World} {P : Nat → Prop} {x y z : X} {T T2 T3 : TypeId} {u u2 u3 : Value} (hx : PX w P x (.iface T u)) (hy : PX w P y (.iface T2 u2)) (hz : PX w P z (.iface T3 u3)) (hd : dp x ≤ 200000) (hd2 : dp y ≤ 200000) (hd3 : dp z ≤ 200000) :
    Calls Tryz.prog 165 #[.slice (some ⟨w.heap.size, 0, none⟩) 3 3] (w.alloc (.cells #[.iface T u, .iface T2 u2, .iface T3 u3] 114)) fun e w' => e = .returned (.agg #[.int .i64 (max (dp x) (max (dp y) (dp z)) + 1 : Nat)]) ∧ Kp (fun _ => False) w w' := by
  have hk : Kp (fun _ => False) w (w.alloc (.cells #[.iface T u, .iface T2 u2, .iface T3 u3] 114)) := (Kp.refl _ _).alloc _
  have hc : (w.alloc (.cells #[.iface T u, .iface T2 u2, .iface T3 u3] 114)).heap[w.heap.size]? = some (.cells #[.iface T u, .iface T2 u2, .iface T3 u3] 114 (0, 0)) := heap_alloc_new _ _
  have := above_any [x, y, z] [.iface T u, .iface T2 u2, .iface T3 u3] w.heap.size 3 (w.alloc (.cells #[.iface T u, .iface T2 u2, .iface T3 u3] 114)) P rfl (by
    intro j hj
    match j, hj with
    | 0, _ => simp only [World.cell?, hc]; rfl
    | 1, _ => simp only [World.cell?, hc]; rfl
    | 2, _ => simp only [World.cell?, hc]; rfl) (by
    intro j t p h1 h2
    match j, h1, h2 with
    | 0, h1, h2 => simp at h1 h2; subst h1; subst h2; exact hx.kp hk
    | 1, h1, h2 => simp at h1 h2; subst h1; subst h2; exact hy.kp hk
    | 2, h1, h2 => simp at h1 h2; subst h1; subst h2; exact hz.kp hk) (by simp) (by simp [dps]; omega)
  refine this.mono ?_
  rintro e w' ⟨rfl, hk2⟩
  exact ⟨by simp [dps], hk.trans hk2⟩
end Go.Proofs.YtnhmjndjclpnlaaGreatDoor
