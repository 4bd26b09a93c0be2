import Derived.Test.YtleenphlgbklmaaGreatDoorRPX
import Derived.Test.YtleenphlgbklmaaGreatDoorRSaid
import Derived.Test.YtleenphlgbklmaaGreatDoorRTGood
set_option linter.unusedVariables false
set_option linter.unusedSimpArgs false
namespace Go.Proofs.YtleenphlgbklmaaGreatDoor
open Go.RowKit

theorem PRd.c {w : World} {rb : Nat} {s : ByteArray} {kd i : Nat} {x : ByteArray} (h : PRd w rb s kd i x) : w.cell? ⟨rb, 0, none⟩ = some (.string s) ∧ w.cell? ⟨rb, 1, none⟩ = some (.int .i64 kd) ∧ w.cell? ⟨rb, 2, none⟩ = some (.int .i64 i) ∧ w.cell? ⟨rb, 3, none⟩ = some (.string x) := by
  have hh : w.heap[rb]? = some (.cells #[.string s, .int .i64 kd, .int .i64 i, .string x] 256 (0, 0)) := h
  refine ⟨?_, ?_, ?_, ?_⟩ <;> simp [World.cell?, hh]
/-- thrown: a fault at that place. -/
def ThrS (w : World) (loc : Nat) (e : Ending) (w' : World) : Prop := ∃ b, e = thrown (.iface 134 (.pointer (some ⟨b, 0, none⟩))) ∧ w'.heap[b]? = some (.cells #[.int .i64 loc] 145 (0, 0)) ∧ w.heap.size ≤ b ∧ Kept w w'

theorem pis_any (w : World) (rb : Nat) (s x t : ByteArray) (kd i : Nat) (h : PRd w rb s kd i x) :
    Calls Tryz.prog 129 #[.pointer (some ⟨rb, 0, none⟩), .string t] w fun e w' => e = .returned (.bool (x.toList == t.toList)) ∧ w' = w := by
  obtain ⟨c0, c1, c2, c3⟩ := h.c
  generalize hr : (x.toList == t.toList) = r
  go_enter Tryz.func129, Tryz.ntmps129
  go_wp2
  go_ret
  exact ⟨rfl, rfl⟩
theorem prr_any (w : World) (rb : Nat) (s x : ByteArray) (kd i : Nat) (h : PRd w rb s kd i x) :
    Calls Tryz.prog 134 #[.pointer (some ⟨rb, 0, none⟩)] w fun e w' => ThrS w i e w' := by
  obtain ⟨c0, c1, c2, c3⟩ := h.c
  clear h
  go_enter Tryz.func134, Tryz.ntmps134
  go_wp2_with (go_at_call 99; refine Calls.mono (prefuse_syn _ _) ?_; rintro e w' ⟨he, hww⟩; rw [hww, he]; clear hww he w' e)
  exact ⟨rfl, _, rfl, heap_alloc_new _ _, Nat.le_refl _, Kept.below ((Below.refl _ _).alloc (by simp) _)⟩
theorem pexpend_any (w : World) (rb : Nat) (s x : ByteArray) (kd i : Nat) (h : PRd w rb s kd i x) (hk : kd = 0) :
    Calls Tryz.prog 98 #[.pointer (some ⟨rb, 0, none⟩)] w fun e w' => e = .returned (.tuple #[]) ∧ w' = w := by
  obtain ⟨c0, c1, c2, c3⟩ := h.c
  subst hk
  clear h
  go_enter Tryz.func98, Tryz.ntmps98
  go_wp2
  go_end0
  exact ⟨rfl, rfl⟩
theorem pexpend_bad (w : World) (rb : Nat) (s x : ByteArray) (kd i : Nat) (h : PRd w rb s kd i x) (hk : kd ≠ 0) :
    Calls Tryz.prog 98 #[.pointer (some ⟨rb, 0, none⟩)] w fun e w' => ThrS w i e w' := by
  have HR : Hid _ := prr_any w rb s x kd i h
  obtain ⟨c0, c1, c2, c3⟩ := h.c
  have hz : ((kd : Int) == 0) = false := by simp; omega
  clear h
  go_enter Tryz.func98, Tryz.ntmps98
  go_wp2_with (go_at_call 134; refine Calls.mono HR.out ?_; rintro e w' ⟨b, he, hb1, hb2, hB⟩; rw [he]; clear he e)
  exact ⟨rfl, b, rfl, hb1, hb2, hB⟩
theorem pexpect_bad (w : World) (rb : Nat) (s x t : ByteArray) (kd i : Nat) (h : PRd w rb s kd i x) (hk : (x.toList == t.toList) = false) :
    Calls Tryz.prog 173 #[.pointer (some ⟨rb, 0, none⟩), .string t] w fun e w' => ThrS w i e w' := by
  have HR : Hid _ := prr_any w rb s x kd i h
  have HI : Hid _ := pis_any w rb s x t kd i h
  rw [hk] at HI
  clear h hk
  go_enter Tryz.func173, Tryz.ntmps173
  go_wp2_with (first | (go_at_call 129; refine Calls.mono HI.out ?_; rintro e w' ⟨rfl, hww⟩; rw [hww]; clear hww w') | (go_at_call 134; refine Calls.mono HR.out ?_; rintro e w' ⟨b, he, hb1, hb2, hB⟩; rw [he]; clear he e))
  exact ⟨rfl, b, rfl, hb1, hb2, hB⟩
theorem pexpect_some (w : World) (rb : Nat) (s x t : ByteArray) (kd i : Nat) (h : PRd w rb s kd i x) (hk : (x.toList == t.toList) = true) (hs : s.size ≤ 300) (hi : i + x.size ≤ s.size) (kd' : Nat) (y : ByteArray) (k' : Nat) (hT : pTok s (run blI s (i + x.size)) = some (kd', y, k')) :
    Calls Tryz.prog 173 #[.pointer (some ⟨rb, 0, none⟩), .string t] w fun e w' => e = .returned (.tuple #[]) ∧ Kp (· = rb) w w' ∧ PRd w' rb s kd' (run blI s (i + x.size)) y := by
  have HA : Hid _ := padv_some w rb s x kd i h hs hi kd' y k' hT
  have HI : Hid _ := pis_any w rb s x t kd i h
  rw [hk] at HI
  clear h hk hT
  go_enter Tryz.func173, Tryz.ntmps173
  go_wp2_with (first | (go_at_call 129; refine Calls.mono HI.out ?_; rintro e w' ⟨rfl, hww⟩; rw [hww]; clear hww w') | (go_at_call 128; refine Calls.mono HA.out ?_; rintro e w' ⟨rfl, hK, hP⟩))
  go_end0
  exact ⟨rfl, hK, hP⟩
theorem pexpect_none (w : World) (rb : Nat) (s x t : ByteArray) (kd i : Nat) (h : PRd w rb s kd i x) (hk : (x.toList == t.toList) = true) (hs : s.size ≤ 300) (hi : i + x.size ≤ s.size) (hT : pTok s (run blI s (i + x.size)) = none) :
    Calls Tryz.prog 173 #[.pointer (some ⟨rb, 0, none⟩), .string t] w fun e w' => ThrS w (run blI s (i + x.size)) e w' := by
  have HA : Hid _ := padv_none w rb s x kd i h hs hi hT
  have HI : Hid _ := pis_any w rb s x t kd i h
  rw [hk] at HI
  clear h hk hT
  generalize run blI s (i + x.size) = k0 at *
  go_enter Tryz.func173, Tryz.ntmps173
  go_wp2_with (first | (go_at_call 129; refine Calls.mono HI.out ?_; rintro e w' ⟨rfl, hww⟩; rw [hww]; clear hww w') | (go_at_call 128; refine Calls.mono HA.out ?_; rintro e w' ⟨b, he, hb1, hb2, hB⟩; rw [he]; clear he e))
  exact ⟨rfl, b, rfl, hb1, hb2, Kept.below hB⟩

theorem pnew_long {A : Nat → Addr} (s : ByteArray) (w : World) (hG : Glb A w) (h : 300 < s.size) (hm : s.size ≤ 9223372036854775807) :
    Calls Tryz.prog 96 #[.string s] w fun e w' => e = thrown (.iface 407 (.pointer (some (A 0)))) ∧ Kept w w' := by
  have c0 := hG.c0
  clear hG
  go_enter Tryz.func96, Tryz.ntmps96
  go_wp2_with (go_at_call 99; refine Calls.mono (prefuse_es _ _) ?_; rintro e w' ⟨he, hww⟩; rw [hww, he]; clear hww he w' e)
  exact ⟨rfl, rfl, Kept.refl _⟩
set_option maxHeartbeats 1000000 in
theorem pnew_some (s : ByteArray) (w : World) (hs : s.size ≤ 300) (kd' : Nat) (y : ByteArray) (k' : Nat) (hT : pTok s (run blI s 0) = some (kd', y, k')) :
    Calls Tryz.prog 96 #[.string s] w fun e w' => e = .returned (.pointer (some ⟨w.heap.size, 0, none⟩)) ∧ Kept w w' ∧ PRd w' w.heap.size s kd' (run blI s 0) y := by
  have h : PRd (w.alloc (.cells #[.string s, .int .i64 ((0 : Nat) : Int), .int .i64 ((0 : Nat) : Int), .string { data := #[] }] 256)) w.heap.size s 0 0 { data := #[] } := heap_alloc_new _ _
  have HA : Hid _ := padv_some _ w.heap.size s { data := #[] } 0 0 h hs (by simp; show 0 ≤ _; omega) kd' y k' hT
  clear h hT
  go_enter Tryz.func96, Tryz.ntmps96
  go_wp2_with fail
  refine Calls.mono HA.out ?_
  rintro e w2 ⟨rfl, hK, hP⟩
  have hKK : Kept w w2 := ⟨hK.os, hK.output, by have := hK.size; simp at this; omega, fun q hq => by
    rw [hK.block q (by simp; omega) (by show ¬ q = _; omega)]
    exact Below.heap_alloc _ _ _ hq⟩
  clear hK HA
  go_wp2
  go_ret
  exact ⟨rfl, hKK, hP⟩
set_option maxHeartbeats 1000000 in
theorem pnew_none (s : ByteArray) (w : World) (hs : s.size ≤ 300) (hT : pTok s (run blI s 0) = none) :
    Calls Tryz.prog 96 #[.string s] w fun e w' => ThrS w (run blI s 0) e w' := by
  have h : PRd (w.alloc (.cells #[.string s, .int .i64 ((0 : Nat) : Int), .int .i64 ((0 : Nat) : Int), .string { data := #[] }] 256)) w.heap.size s 0 0 { data := #[] } := heap_alloc_new _ _
  have HA : Hid _ := padv_none _ w.heap.size s { data := #[] } 0 0 h hs (by simp; show 0 ≤ _; omega) hT
  clear h hT
  go_enter Tryz.func96, Tryz.ntmps96
  go_wp2_with fail
  refine Calls.mono HA.out ?_
  rintro e w2 ⟨b, he, hb1, hb2, hB⟩
  rw [he]
  clear he HA
  go_wp2
  refine ⟨rfl, b, rfl, hb1, by simp at hb2; omega, ?_⟩
  exact Kept.trans (Kept.below ((Below.refl _ _).alloc (by simp) _)) (Kept.below hB)
end Go.Proofs.YtleenphlgbklmaaGreatDoor

namespace Go.Proofs.YtleenphlgbklmaaGreatDoor
open Go.RowKit

/-- the tokens of a text stand one behind the other. -/
theorem toks_next (s : ByteArray) (kws : List ByteArray) (hk : ∀ w, w ∈ kws → w ≠ { data := #[110, 97, 109, 101] }) : ∀ n i, i ≤ s.size → ∀ k, k < (toksF s kws n i).length →
    (k = 0 → tkAt (toksF s kws n i) k = (tok1 s kws (run blI s i)).1) ∧
    ((tkAt (toksF s kws n i) k).loc + (tkAt (toksF s kws n i) k).s.size ≤ s.size) ∧
    (∃ j, j ≤ s.size ∧ tkAt (toksF s kws n i) k = (tok1 s kws j).1) ∧
    (k + 1 < (toksF s kws n i).length → tkAt (toksF s kws n i) (k + 1) = (tok1 s kws (run blI s ((tkAt (toksF s kws n i) k).loc + (tkAt (toksF s kws n i) k).s.size))).1)
  | 0, i, hi, k, hk0 => by simp [toksF] at hk0
  | n + 1, i, hi, k, hk0 => by
    have hr := run_le blI s i hi
    have hbd := clsK_bd s (run blI s i) hr
    have hsz : (s.extract (run blI s i) (clsK s (run blI s i))).size = clsK s (run blI s i) - run blI s i := by simp [ByteArray.size_extract]; omega
    have hloc : (tok1 s kws (run blI s i)).1.loc = run blI s i := rfl
    have hts : (tok1 s kws (run blI s i)).1.s = s.extract (run blI s i) (clsK s (run blI s i)) := rfl
    have hend : (tok1 s kws (run blI s i)).1.loc + (tok1 s kws (run blI s i)).1.s.size = (tok1 s kws (run blI s i)).2 := by
      rw [hloc, hts, hsz]
      show _ = clsK s (run blI s i)
      omega
    have hle2 : (tok1 s kws (run blI s i)).2 ≤ s.size := hbd.2
    cases hl : lastT (tok1 s kws (run blI s i)).1
    · have e : toksF s kws (n + 1) i = (tok1 s kws (run blI s i)).1 :: toksF s kws n (tok1 s kws (run blI s i)).2 := by rw [toksF, hl]; rfl
      rw [e] at hk0 ⊢
      cases k with
      | zero =>
        rw [tkAt_zero]
        refine ⟨fun _ => rfl, by rw [hend]; exact hle2, ⟨_, hr, rfl⟩, ?_⟩
        intro h1
        rw [tkAt_succ, hend]
        have := (toks_next s kws hk n _ hle2 0 (by simpa using h1)).1 rfl
        exact this
      | succ k =>
        rw [tkAt_succ, tkAt_succ]
        obtain ⟨_, a2, a3, a4⟩ := toks_next s kws hk n _ hle2 k (by simpa using hk0)
        exact ⟨fun q => by omega, a2, a3, fun h1 => a4 (by simpa using h1)⟩
    · have e : toksF s kws (n + 1) i = [(tok1 s kws (run blI s i)).1] := by rw [toksF, hl]; rfl
      rw [e] at hk0 ⊢
      have : k = 0 := by simpa using hk0
      subst this
      rw [tkAt_zero]
      exact ⟨fun _ => rfl, by rw [hend]; exact hle2, ⟨_, hr, rfl⟩, fun h1 => by simp at h1⟩

/-- keywords as they ought to be. -/
structure KwOk (kws : List ByteArray) : Prop where
  ne : ∀ w, w ∈ kws → w ≠ { data := #[110, 97, 109, 101] } ∧ w ≠ { data := #[110, 111, 110, 101] } ∧ w ≠ { data := #[101, 110, 100] } ∧ w ≠ { data := #[110, 117, 109] }
  low : ∀ w, w ∈ kws → lowI (chr w 0) = true
theorem kwIn_mem {kws : List ByteArray} {x : ByteArray} (h : kwIn kws x = true) : x ∈ kws := by
  unfold kwIn at h
  rw [List.any_eq_true] at h
  obtain ⟨w, hw, e⟩ := h
  rw [(sameS_iff x w).1 e]
  exact hw
theorem ne_of_list {a b : ByteArray} (h : a.data.toList ≠ b.data.toList) : a ≠ b := fun e => h (by rw [e])

section
variable {s : ByteArray} {kws : List ByteArray} (hK : KwOk kws) {L : List Tk} (hL : L = toksF s kws (s.size + 1) 0)
include hK hL
theorem tk_link (k : Nat) (h : k < L.length) : (tkAt L k).loc + (tkAt L k).s.size ≤ s.size ∧ Link s kws (tkAt L k).loc (tkAt L k) ((tkAt L k).loc + (tkAt L k).s.size) := by
  have hk : ∀ w, w ∈ kws → w ≠ { data := #[110, 97, 109, 101] } := fun w hw => (hK.ne w hw).1
  subst hL
  obtain ⟨_, a2, ⟨j, hj, e⟩, _⟩ := toks_next s kws hk (s.size + 1) 0 (Nat.zero_le _) k h
  have l := tok_link s kws hk j hj
  have hbd := clsK_bd s j hj
  have e1 : (tok1 s kws j).2 = (tok1 s kws j).1.loc + (tok1 s kws j).1.s.size := by
    show clsK s j = j + (s.extract j (clsK s j)).size
    simp [ByteArray.size_extract]
    omega
  refine ⟨a2, ?_⟩
  rw [e]
  rw [e1] at l
  exact l
theorem tk_tok (k : Nat) (h : k < L.length) (hn : (tkAt L k).is ≠ { data := #[110, 111, 110, 101] }) : ∃ kd, pTok s (tkAt L k).loc = some (kd, (tkAt L k).s, (tkAt L k).loc + (tkAt L k).s.size) := by
  have l := (tk_link hK hL k h).2
  cases l with
  | fin a b c d e =>
    refine ⟨0, ?_⟩
    rw [← e, c]
    exact d
  | bad a b => exact absurd a hn
  | word a b c d => exact ⟨1, c⟩
  | num a b c d e => exact ⟨2, d⟩
  | sign a b c d e f => exact ⟨3, d⟩
theorem tk_none (k : Nat) (h : k < L.length) (hn : (tkAt L k).is = { data := #[110, 111, 110, 101] }) : pTok s (tkAt L k).loc = none := by
  have l := (tk_link hK hL k h).2
  cases l with
  | fin a b c d e => rw [hn] at b; exact absurd b (ne_of_list (by decide))
  | bad a b => exact b
  | word a b c d =>
    exfalso
    rw [hn] at d
    split at d
    · rename_i q
      exact (hK.ne _ (kwIn_mem q)).2.1 d.symm
    · exact absurd d (ne_of_list (by decide))
  | num a b c d e => rw [hn] at e; exact absurd e (ne_of_list (by decide))
  | sign a b c d e f =>
    exfalso
    rw [hn] at e
    rcases f with f | ⟨h1, f, _⟩
    · rw [f] at e; exact absurd e (ne_of_list (by decide))
    · rw [f] at e
      have e := congrArg (fun x => x.size) e
      have e : (4 : Nat) = 1 := e
      omega
end

def isSgn (q : ByteArray) : Prop := q = { data := #[45, 62] } ∨ ∃ c : UInt8, q = ⟨#[c]⟩ ∧ isSign (c.toNat : Int) = true
theorem chr0_extract (s : ByteArray) (i k : Nat) (h : i < k) (hk : k ≤ s.size) : chr (s.extract i k) 0 = chr s i := by
  have h2 : 0 < (s.extract i k).size := by simp [ByteArray.size_extract]; omega
  unfold chr
  rw [dif_pos h2, dif_pos (by omega)]
  simp [ByteArray.getElem_extract]
theorem isSgn_chr {q : ByteArray} (h : isSgn q) : lowI (chr q 0) = false ∧ figI (chr q 0) = false := by
  rcases h with rfl | ⟨c, rfl, hc⟩
  · decide
  · have e : chr (⟨#[c]⟩ : ByteArray) 0 = (c.toNat : Int) := rfl
    rw [e]
    simp only [isSign, Bool.or_eq_true, beq_iff_eq] at hc
    simp only [lowI, figI]
    constructor
    · simp; omega
    · simp; omega
/-- a keyword or a sign is told by a token's text just as by its kind. -/
theorem is_text {s : ByteArray} {kws : List ByteArray} (hK : KwOk kws) {i : Nat} {t : Tk} {k : Nat} (l : Link s kws i t k) (hn : t.is ≠ { data := #[110, 111, 110, 101] }) (hk : k ≤ s.size) (q : ByteArray) (hq : q ∈ kws ∨ isSgn q) : (t.s.data.toList == q.data.toList) = (t.is.data.toList == q.data.toList) := by
  have hqne : q ≠ { data := #[110, 97, 109, 101] } ∧ q ≠ { data := #[101, 110, 100] } ∧ q ≠ { data := #[110, 117, 109] } ∧ q ≠ { data := #[] } := by
    rcases hq with hq | hq
    · have := hK.ne q hq
      refine ⟨this.1, this.2.2.1, this.2.2.2, fun e => ?_⟩
      have h2 := hK.low q hq
      rw [e] at h2
      exact absurd h2 (by decide)
    · rcases hq with rfl | ⟨c, rfl, _⟩
      · exact ⟨ne_of_list (by decide), ne_of_list (by decide), ne_of_list (by decide), ne_of_list (by decide)⟩
      · have hz : ∀ w : ByteArray, w.size ≠ 1 → (⟨#[c]⟩ : ByteArray) ≠ w := fun w hw e => hw (by rw [← e]; rfl)
        exact ⟨hz _ (by decide), hz _ (by decide), hz _ (by decide), hz _ (by decide)⟩
  have fa : ∀ a b : ByteArray, a ≠ b → (a.data.toList == b.data.toList) = false := fun a b h => by
    rw [Bool.eq_false_iff]
    intro e
    exact h ((sameS_iff a b).1 e)
  cases l with
  | fin a b c d e => rw [b, c, fa _ _ (Ne.symm hqne.2.2.2), fa _ _ (Ne.symm hqne.2.1)]
  | bad a b => exact absurd a hn
  | word a b c d =>
    by_cases hw : kwIn kws t.s = true
    · rw [if_pos hw] at d
      rw [d]
    · rw [if_neg hw] at d
      rw [d, fa _ _ (Ne.symm hqne.1)]
      refine fa _ _ (fun e => ?_)
      rcases hq with hq | hq
      · refine hw ?_
        unfold kwIn
        rw [List.any_eq_true]
        exact ⟨q, hq, (sameS_iff _ _).2 e⟩
      · have h1 := (isSgn_chr hq).1
        rw [← e] at h1
        unfold pTok at c
        rw [if_pos a, if_pos b] at c
        split at c
        · simp only [Option.some.injEq, Prod.mk.injEq] at c
          obtain ⟨_, c2, c3⟩ := c
          rw [← c2, chr0_extract s i _ (run_gt lfI s i a (by simp [lfI, b])) (run_le lfI s i (by omega)), b] at h1
          cases h1
        · cases c
  | num a b c d e =>
    rw [e, fa _ _ (Ne.symm hqne.2.2.1)]
    refine fa _ _ (fun e2 => ?_)
    unfold pTok at d
    rw [if_pos a, if_neg (by simp [b]), if_pos c] at d
    split at d
    · simp only [Option.some.injEq, Prod.mk.injEq] at d
      obtain ⟨_, c2, c3⟩ := d
      have h0 : chr t.s 0 = chr s i := by rw [← c2]; exact chr0_extract s i _ (run_gt figI s i a c) (run_le figI s i (by omega))
      rw [e2] at h0
      rcases hq with hq | hq
      · have h1 := hK.low q hq
        rw [h0, b] at h1
        cases h1
      · have h1 := (isSgn_chr hq).2
        rw [h0, c] at h1
        cases h1
    · cases d
  | sign a b c d e f => rw [e]
end Go.Proofs.YtleenphlgbklmaaGreatDoor

namespace Go.Proofs.YtleenphlgbklmaaGreatDoor
open Go.RowKit

/-- the program's reader stands at the k-th token. -/
structure PAt (w : World) (rb : Nat) (s : ByteArray) (L : List Tk) (k : Nat) : Prop where
  ex : ∃ kd, PRd w rb s kd (tkAt L k).loc (tkAt L k).s ∧ pTok s (tkAt L k).loc = some (kd, (tkAt L k).s, (tkAt L k).loc + (tkAt L k).s.size)
  lt : k < L.length
  nn : (tkAt L k).is ≠ { data := #[110, 111, 110, 101] }
/-- the text and its tokens. -/
structure PEnv (s : ByteArray) (kws : List ByteArray) (L : List Tk) : Prop where
  sz : s.size ≤ 300
  kw : KwOk kws
  eq : L = toksF s kws (s.size + 1) 0
theorem PEnv.good {s : ByteArray} {kws : List ByteArray} {L : List Tk} (h : PEnv s kws L) : Good L := by rw [h.eq]; exact toks_good s kws

section
variable {s : ByteArray} {kws : List ByteArray} {L : List Tk} (hE : PEnv s kws L) {w : World} {rb k : Nat}
include hE
theorem at_is (h : PAt w rb s L k) (q : ByteArray) (hq : q ∈ kws ∨ isSgn q) : Calls Tryz.prog 129 #[.pointer (some ⟨rb, 0, none⟩), .string q] w fun e w' => e = .returned (.bool (isM L q k (-1))) ∧ w' = w := by
  obtain ⟨kd, hr, _⟩ := h.ex
  have l := tk_link hE.kw hE.eq k h.lt
  have e := is_text hE.kw l.2 h.nn l.1 q hq
  have := pis_any w rb s (tkAt L k).s q kd _ hr
  have e2 : isM L q k (-1) = ((tkAt L k).s.toList == q.toList) := by
    simp only [isM]
    rw [← e, ByteArray.toList_eq, ByteArray.toList_eq]
    rfl
  rw [e2]
  exact this
theorem at_next (h : PAt w rb s L k) (h1 : k + 1 < L.length) : run blI s ((tkAt L k).loc + (tkAt L k).s.size) = (tkAt L (k + 1)).loc := by
  have hk : ∀ w, w ∈ kws → w ≠ { data := #[110, 97, 109, 101] } := fun w hw => (hE.kw.ne w hw).1
  have hL := hE.eq
  subst hL
  obtain ⟨_, _, _, a4⟩ := toks_next s kws hk (s.size + 1) 0 (Nat.zero_le _) k h.lt
  rw [a4 h1]
  rfl
theorem at_adv (h : PAt w rb s L k) (h1 : k + 1 < L.length) (hn : (tkAt L (k + 1)).is ≠ { data := #[110, 111, 110, 101] }) : Calls Tryz.prog 128 #[.pointer (some ⟨rb, 0, none⟩)] w fun e w' => e = .returned (.tuple #[]) ∧ Kp (· = rb) w w' ∧ PAt w' rb s L (k + 1) := by
  obtain ⟨kd, hr, _⟩ := h.ex
  have l := tk_link hE.kw hE.eq k h.lt
  obtain ⟨kd', ht⟩ := tk_tok hE.kw hE.eq (k + 1) h1 hn
  have nx := at_next hE h h1
  have := padv_some w rb s (tkAt L k).s kd _ hr hE.sz l.1 kd' (tkAt L (k + 1)).s _ (by rw [nx]; exact ht)
  rw [nx] at this
  refine this.mono ?_
  rintro e w' ⟨rfl, hK, hP⟩
  exact ⟨rfl, hK, ⟨kd', hP, ht⟩, h1, hn⟩
theorem at_advN (h : PAt w rb s L k) (h1 : k + 1 < L.length) (hn : (tkAt L (k + 1)).is = { data := #[110, 111, 110, 101] }) : Calls Tryz.prog 128 #[.pointer (some ⟨rb, 0, none⟩)] w fun e w' => ThrS w (tkAt L (k + 1)).loc e w' := by
  obtain ⟨kd, hr, _⟩ := h.ex
  have l := tk_link hE.kw hE.eq k h.lt
  have ht := tk_none hE.kw hE.eq (k + 1) h1 hn
  have nx := at_next hE h h1
  have := padv_none w rb s (tkAt L k).s kd _ hr hE.sz l.1 (by rw [nx]; exact ht)
  rw [nx] at this
  refine this.mono ?_
  rintro e w' ⟨b, he, h2, h3, hB⟩
  exact ⟨b, he, h2, h3, Kept.below hB⟩
theorem at_text (h : PAt w rb s L k) (q : ByteArray) (hq : q ∈ kws ∨ isSgn q) : ((tkAt L k).s.toList == q.toList) = isM L q k (-1) := by
  have l := tk_link hE.kw hE.eq k h.lt
  have e := is_text hE.kw l.2 h.nn l.1 q hq
  simp only [isM]
  rw [← e, ByteArray.toList_eq, ByteArray.toList_eq]
  rfl
theorem at_exp (h : PAt w rb s L k) (q : ByteArray) (hq : q ∈ kws ∨ isSgn q) (h1 : k + 1 < L.length) (hM : isM L q k (-1) = true) (hn : (tkAt L (k + 1)).is ≠ { data := #[110, 111, 110, 101] }) : Calls Tryz.prog 173 #[.pointer (some ⟨rb, 0, none⟩), .string q] w fun e w' => e = .returned (.tuple #[]) ∧ Kp (· = rb) w w' ∧ PAt w' rb s L (k + 1) := by
  obtain ⟨kd, hr, _⟩ := h.ex
  have l := tk_link hE.kw hE.eq k h.lt
  obtain ⟨kd', ht⟩ := tk_tok hE.kw hE.eq (k + 1) h1 hn
  have nx := at_next hE h h1
  have := pexpect_some w rb s (tkAt L k).s q kd _ hr (by rw [at_text hE h q hq]; exact hM) hE.sz l.1 kd' (tkAt L (k + 1)).s _ (by rw [nx]; exact ht)
  rw [nx] at this
  refine this.mono ?_
  rintro e w' ⟨rfl, hK, hP⟩
  exact ⟨rfl, hK, ⟨kd', hP, ht⟩, h1, hn⟩
theorem at_expN (h : PAt w rb s L k) (q : ByteArray) (hq : q ∈ kws ∨ isSgn q) (h1 : k + 1 < L.length) (hM : isM L q k (-1) = true) (hn : (tkAt L (k + 1)).is = { data := #[110, 111, 110, 101] }) : Calls Tryz.prog 173 #[.pointer (some ⟨rb, 0, none⟩), .string q] w fun e w' => ThrS w (tkAt L (k + 1)).loc e w' := by
  obtain ⟨kd, hr, _⟩ := h.ex
  have l := tk_link hE.kw hE.eq k h.lt
  have ht := tk_none hE.kw hE.eq (k + 1) h1 hn
  have nx := at_next hE h h1
  have := pexpect_none w rb s (tkAt L k).s q kd _ hr (by rw [at_text hE h q hq]; exact hM) hE.sz l.1 (by rw [nx]; exact ht)
  rw [nx] at this
  exact this
theorem at_expB (h : PAt w rb s L k) (q : ByteArray) (hq : q ∈ kws ∨ isSgn q) (hM : isM L q k (-1) = false) : Calls Tryz.prog 173 #[.pointer (some ⟨rb, 0, none⟩), .string q] w fun e w' => ThrS w (tkAt L k).loc e w' := by
  obtain ⟨kd, hr, _⟩ := h.ex
  exact pexpect_bad w rb s (tkAt L k).s q kd _ hr (by rw [at_text hE h q hq]; exact hM)
end

theorem isM_none {L : List Tk} {q : ByteArray} {k : Nat} {bad : Int} (hn : (tkAt L k).is = { data := #[110, 111, 110, 101] }) (hq : q.data.toList ≠ ({ data := #[110, 111, 110, 101] } : ByteArray).data.toList) : isM L q k bad = false := by
  simp only [isM, hn]
  have : (({ data := #[110, 111, 110, 101] } : ByteArray).data.toList == q.data.toList) = false := by
    rw [Bool.eq_false_iff]
    intro e
    exact hq (beq_iff_eq.1 e).symm
  rw [this]
  simp
/-- a fault once told stays. -/
theorem tread_bad (l : List Tk) : ∀ n, (∀ names k bad t names' k' bad', arrowM l n names k bad = some (t, names', k', bad') → (0 ≤ bad → bad' = bad) ∧ (bad' < 0 → bad' = bad)) ∧
    (∀ names k bad t names' k' bad', oneM l n names k bad = some (t, names', k', bad') → (0 ≤ bad → bad' = bad) ∧ (bad' < 0 → bad' = bad)) := by
  have nb : ∀ s k bad, (0 ≤ bad → needB l s k bad = bad) ∧ (needB l s k bad < 0 → needB l s k bad = bad) := fun s k bad => by
    refine ⟨fun h => needB_geT h, ?_⟩
    unfold needB
    split
    · intro h; omega
    · intro _; rfl
  intro n
  induction n with
  | zero => exact ⟨fun _ _ _ _ _ _ _ h => by simp [arrowM] at h, fun _ _ _ _ _ _ _ h => by simp [oneM] at h⟩
  | succ n ih =>
    refine ⟨?_, ?_⟩
    · intro names k bad t names' k' bad' h
      simp only [arrowM] at h
      obtain ⟨⟨x, n1, k1, b1⟩, h1, h2⟩ := Option.bind_eq_some_iff.1 h
      have g1 := ih.2 _ _ _ _ _ _ _ h1
      simp only at h2
      split at h2
      · obtain ⟨⟨y, n2, k2, b2⟩, h3, h4⟩ := Option.bind_eq_some_iff.1 h2
        have g2 := ih.1 _ _ _ _ _ _ _ h3
        simp only [Option.some.injEq, Prod.mk.injEq] at h4
        obtain ⟨_, _, _, rfl⟩ := h4
        exact ⟨fun q => by have := g1.1 q; have := g2.1 (by omega); omega, fun q => by have := g2.2 q; have := g1.2 (by omega); omega⟩
      · simp only [Option.some.injEq, Prod.mk.injEq] at h2
        obtain ⟨_, _, _, rfl⟩ := h2
        exact g1
    · intro names k bad t names' k' bad' h
      simp only [oneM] at h
      split at h
      · simp only [Option.some.injEq, Prod.mk.injEq] at h
        obtain ⟨_, _, _, rfl⟩ := h
        exact ⟨fun _ => rfl, fun _ => rfl⟩
      · split at h
        · simp only [Option.some.injEq, Prod.mk.injEq] at h
          obtain ⟨_, _, _, rfl⟩ := h
          exact ⟨fun _ => rfl, fun _ => rfl⟩
        · split at h
          · obtain ⟨⟨x, n1, k1, b1⟩, h1, h2⟩ := Option.bind_eq_some_iff.1 h
            have g1 := ih.1 _ _ _ _ _ _ _ h1
            simp only [Option.some.injEq, Prod.mk.injEq] at h2
            obtain ⟨_, _, _, rfl⟩ := h2
            have g2 := nb { data := #[93] } k1 b1
            exact ⟨fun q => by have := g1.1 q; have := g2.1 (by omega); omega, fun q => by have := g2.2 q; have := g1.2 (by omega); omega⟩
          · split at h
            · obtain ⟨⟨x, n1, k1, b1⟩, h1, h2⟩ := Option.bind_eq_some_iff.1 h
              have g1 := ih.1 _ _ _ _ _ _ _ h1
              simp only at h2
              split at h2
              · obtain ⟨⟨y, n2, k2, b2⟩, h3, h4⟩ := Option.bind_eq_some_iff.1 h2
                have g3 := ih.1 _ _ _ _ _ _ _ h3
                simp only [Option.some.injEq, Prod.mk.injEq] at h4
                obtain ⟨_, _, _, rfl⟩ := h4
                have g2 := nb { data := #[41] } k2 b2
                exact ⟨fun q => by have := g1.1 q; have := g3.1 (by omega); have := g2.1 (by omega); omega, fun q => by have := g2.2 q; have := g3.2 (by omega); have := g1.2 (by omega); omega⟩
              · simp only [Option.some.injEq, Prod.mk.injEq] at h2
                obtain ⟨_, _, _, rfl⟩ := h2
                have g2 := nb { data := #[41] } k1 b1
                exact ⟨fun q => by have := g1.1 q; have := g2.1 (by omega); omega, fun q => by have := g2.2 q; have := g1.2 (by omega); omega⟩
            · simp only [Option.some.injEq, Prod.mk.injEq] at h
              obtain ⟨_, _, _, rfl⟩ := h
              exact nb { data := #[110, 97, 109, 101] } k bad
/-- at no token the reader of types tells that place. -/
theorem tread_none (l : List Tk) (n : Nat) (names : List ByteArray) (k : Nat) (bad : Int) (hb : bad < 0) (hn : (tkAt l k).is = { data := #[110, 111, 110, 101] }) :
    (∀ t names' k' bad', oneM l n names k bad = some (t, names', k', bad') → bad' = (tkAt l k).loc) ∧ (∀ t names' k' bad', arrowM l n names k bad = some (t, names', k', bad') → bad' = (tkAt l k).loc) := by
  have one : ∀ n t names' k' bad', oneM l n names k bad = some (t, names', k', bad') → bad' = (tkAt l k).loc := by
    intro n t names' k' bad' h
    cases n with
    | zero => simp [oneM] at h
    | succ n =>
      simp only [oneM, isM_none hn (show ({ data := #[105, 110, 116] } : ByteArray).data.toList ≠ ({ data := #[110, 111, 110, 101] } : ByteArray).data.toList by decide), isM_none hn (show ({ data := #[98, 111, 111, 108] } : ByteArray).data.toList ≠ ({ data := #[110, 111, 110, 101] } : ByteArray).data.toList by decide), isM_none hn (show ({ data := #[91] } : ByteArray).data.toList ≠ ({ data := #[110, 111, 110, 101] } : ByteArray).data.toList by decide), isM_none hn (show ({ data := #[40] } : ByteArray).data.toList ≠ ({ data := #[110, 111, 110, 101] } : ByteArray).data.toList by decide), Bool.false_eq_true, if_false, Option.some.injEq, Prod.mk.injEq] at h
      obtain ⟨_, _, _, rfl⟩ := h
      unfold needB
      rw [isM_none hn (by decide), if_pos (by simp; omega)]
  refine ⟨one n, ?_⟩
  intro t names' k' bad' h
  cases n with
  | zero => simp [arrowM] at h
  | succ n =>
    simp only [arrowM] at h
    obtain ⟨⟨x, n1, k1, b1⟩, h1, h2⟩ := Option.bind_eq_some_iff.1 h
    have e := one n _ _ _ _ h1
    simp only at h2
    rw [isM_geT (by omega)] at h2
    simp only [Bool.false_eq_true, if_false, Option.some.injEq, Prod.mk.injEq] at h2
    obtain ⟨_, _, _, rfl⟩ := h2
    exact e
end Go.Proofs.YtleenphlgbklmaaGreatDoor

namespace Go.Proofs.YtleenphlgbklmaaGreatDoor
open Go.RowKit

/-- all that lay there is as it was, but for the blocks of S (the tape may have been asked). -/
structure Kq (S : Nat → Prop) (w w' : World) : Prop where
  os : w'.os = w.os
  output : w'.output = w.output
  size : w.heap.size ≤ w'.heap.size
  block : ∀ k, k < w.heap.size → ¬ S k → w'.heap[k]? = w.heap[k]?
theorem Kq.trans {S : Nat → Prop} {a b c : World} (h : Kq S a b) (k : Kq S b c) : Kq S a c := ⟨k.os.trans h.os, k.output.trans h.output, Nat.le_trans h.size k.size, fun q hq hs => (k.block q (Nat.lt_of_lt_of_le hq h.size) hs).trans (h.block q hq hs)⟩
theorem Kq.of_kp {S T : Nat → Prop} {a b : World} (h : Kp T a b) (hT : ∀ q, T q → S q) : Kq S a b := ⟨h.os, h.output, h.size, fun q hq hs => h.block q hq (fun x => hs (hT q x))⟩
theorem Kq.of_kept {S : Nat → Prop} {a b : World} (h : Kept a b) : Kq S a b := ⟨h.os, h.output, h.size, fun q hq _ => h.block q hq⟩
theorem PAt.kept {w w' : World} {rb : Nat} {s : ByteArray} {L : List Tk} {k : Nat} (h : PAt w rb s L k) (hk : Kept w w') : PAt w' rb s L k := by
  obtain ⟨kd, h1, h2⟩ := h.ex
  exact ⟨⟨kd, hk.blk h1, h2⟩, h.lt, h.nn⟩
theorem Kept.alloc (w : World) (o : Obj) : Kept w (w.alloc o) := Kept.below ((Below.refl _ _).alloc (by simp) _)

end Go.Proofs.YtleenphlgbklmaaGreatDoor
