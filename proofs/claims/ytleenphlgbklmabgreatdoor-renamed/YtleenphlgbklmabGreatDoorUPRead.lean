import Derived.Test.YtleenphlgbklmabGreatDoorUPTokAt
import Derived.Test.YtleenphlgbklmabGreatDoorUGrow
import Derived.Test.YtleenphlgbklmabGreatDoorUTyMirror
import Derived.Test.YtleenphlgbklmabGreatDoorUAsHit
import Derived.Test.YtleenphlgbklmabGreatDoorUIsZ
import Derived.Laws.IdiomRangeMap
import Derived.Maps.RangeWalk
set_option linter.unusedVariables false
set_option linter.unusedSimpArgs false
namespace Go.Proofs.YtleenphlgbklmabGreatDoor
open Go.RowKit

theorem ptok_some (s : ByteArray) (i : Nat) (hs : s.size ≤ 300) (hi : i ≤ s.size) (kd : Nat) (x : ByteArray) (k : Nat) (h : pTok s i = some (kd, x, k)) (w : World) :
    Calls Tryz.prog 120 #[.string s, .int .i64 i] w fun e w' => e = .returned (.agg #[.int .i64 kd, .int .i64 i, .string x]) ∧ Below w.heap.size w w' := by
  unfold pTok at h
  split at h
  · rename_i hlt
    split at h
    · rename_i hl
      split at h
      · rename_i h8
        simp only [Option.some.injEq, Prod.mk.injEq] at h
        obtain ⟨rfl, rfl, rfl⟩ := h
        have hge := run_ge lfI s i
        have e : run lfI s i = i + (run lfI s i - i) := by omega
        have := ptok_word s i (run lfI s i - i) hs hlt hl e h8 w
        rw [← e] at this
        exact this
      · cases h
    · rename_i hl
      have hl' : lowI (chr s i) = false := by simpa using hl
      split at h
      · rename_i hf
        split at h
        · rename_i h8
          simp only [Option.some.injEq, Prod.mk.injEq] at h
          obtain ⟨rfl, rfl, rfl⟩ := h
          have hge := run_ge figI s i
          have e : run figI s i = i + (run figI s i - i) := by omega
          have := ptok_num s i (run figI s i - i) hs hlt hl' hf e h8 w
          rw [← e] at this
          exact this
        · cases h
      · rename_i hf
        have hf' : figI (chr s i) = false := by simpa using hf
        split at h
        · rename_i ha
          simp only [Option.some.injEq, Prod.mk.injEq] at h
          obtain ⟨rfl, rfl, rfl⟩ := h
          exact ptok_sign s i 2 hs hlt hl' hf' (by rw [if_pos ⟨ha.1, by omega, ha.2.2⟩]; rfl) (by omega) (by omega) (by omega) w
        · rename_i ha
          split at h
          · rename_i hsg
            simp only [Option.some.injEq, Prod.mk.injEq] at h
            obtain ⟨rfl, rfl, rfl⟩ := h
            exact ptok_sign s i 1 hs hlt hl' hf' (by rw [if_neg (fun q => ha ⟨q.1, by omega, q.2.2⟩), if_pos hsg]; rfl) (by omega) (by omega) (by omega) w
          · cases h
  · rename_i hlt
    simp only [Option.some.injEq, Prod.mk.injEq] at h
    obtain ⟨rfl, rfl, rfl⟩ := h
    exact ptok_end s i hs (by omega) w
theorem ptok_none (s : ByteArray) (i : Nat) (hs : s.size ≤ 300) (h : pTok s i = none) (w : World) :
    Calls Tryz.prog 120 #[.string s, .int .i64 i] w fun e w' => ∃ b, e = thrown (.iface 83 (.pointer (some ⟨b, 0, none⟩))) ∧ w'.heap[b]? = some (.cells #[.int .i64 i] 94 (0, 0)) ∧ w.heap.size ≤ b ∧ Below w.heap.size w w' := by
  unfold pTok at h
  split at h
  · rename_i hlt
    split at h
    · rename_i hl
      split at h
      · cases h
      · rename_i h8
        have hge := run_ge lfI s i
        exact ptok_word_bad s i (run lfI s i - i) hs hlt hl (by omega) (by omega) w
    · rename_i hl
      have hl' : lowI (chr s i) = false := by simpa using hl
      split at h
      · rename_i hf
        split at h
        · cases h
        · rename_i h8
          have hge := run_ge figI s i
          exact ptok_num_bad s i (run figI s i - i) hs hlt hl' hf (by omega) (by omega) w
      · rename_i hf
        have hf' : figI (chr s i) = false := by simpa using hf
        split at h
        · cases h
        · rename_i ha
          split at h
          · cases h
          · rename_i hsg
            exact ptok_sign_bad s i 0 hs hlt hl' hf' (by rw [if_neg (fun q => ha ⟨q.1, by omega, q.2.2⟩), if_neg hsg]; rfl) rfl w
  · cases h
theorem pTok_end (s : ByteArray) (i : Nat) (hi : i ≤ s.size) (kd : Nat) (x : ByteArray) (k : Nat) (h : pTok s i = some (kd, x, k)) : k = i + x.size ∧ k ≤ s.size := by
  have ex : ∀ a b : Nat, a ≤ b → b ≤ s.size → (s.extract a b).size = b - a := fun a b h1 h2 => by simp [ByteArray.size_extract]; omega
  unfold pTok at h
  split at h
  · rename_i hlt
    split at h
    · split at h
      · simp only [Option.some.injEq, Prod.mk.injEq] at h
        obtain ⟨rfl, rfl, rfl⟩ := h
        have h1 := run_ge lfI s i
        have h2 := run_le lfI s i hi
        rw [ex _ _ h1 h2]
        omega
      · cases h
    · split at h
      · split at h
        · simp only [Option.some.injEq, Prod.mk.injEq] at h
          obtain ⟨rfl, rfl, rfl⟩ := h
          have h1 := run_ge figI s i
          have h2 := run_le figI s i hi
          rw [ex _ _ h1 h2]
          omega
        · cases h
      · split at h
        · rename_i ha
          simp only [Option.some.injEq, Prod.mk.injEq] at h
          obtain ⟨rfl, rfl, rfl⟩ := h
          rw [ex _ _ (by omega) (by omega)]
          omega
        · split at h
          · simp only [Option.some.injEq, Prod.mk.injEq] at h
            obtain ⟨rfl, rfl, rfl⟩ := h
            rw [ex _ _ (by omega) (by omega)]
            omega
          · cases h
  · simp only [Option.some.injEq, Prod.mk.injEq] at h
    obtain ⟨rfl, rfl, rfl⟩ := h
    exact ⟨rfl, hi⟩

/-- the program's reader. -/
def PRd (w : World) (rb : Nat) (s : ByteArray) (kd i : Nat) (x : ByteArray) : Prop := w.heap[rb]? = some (.cells #[.string s, .int .i64 kd, .int .i64 i, .string x] 191 (0, 0))
theorem PRd.set {w : World} {rb : Nat} {s : ByteArray} {kd i : Nat} {x : ByteArray} (h : PRd w rb s kd i x) (kd' i' : Nat) (x' : ByteArray) : PRd (((w.setCell ⟨rb, 1, none⟩ (.int .i64 kd')).setCell ⟨rb, 2, none⟩ (.int .i64 i')).setCell ⟨rb, 3, none⟩ (.string x')) rb s kd' i' x' := by
  have h : w.heap[rb]? = some (.cells #[.string s, .int .i64 kd, .int .i64 i, .string x] 191 (0, 0)) := h
  simp [PRd, World.setCell, h, Array.getElem?_modify]

set_option maxHeartbeats 2000000 in
theorem padv_some (w : World) (rb : Nat) (s x : ByteArray) (kd i : Nat) (h : PRd w rb s kd i x) (hs : s.size ≤ 300) (hi : i + x.size ≤ s.size) (kd' : Nat) (y : ByteArray) (k' : Nat) (hT : pTok s (run blI s (i + x.size)) = some (kd', y, k')) :
    Calls Tryz.prog 78 #[.pointer (some ⟨rb, 0, none⟩)] w fun e w' => e = .returned (.tuple #[]) ∧ Kp (· = rb) w w' ∧ PRd w' rb s kd' (run blI s (i + x.size)) y := by
  have hh : w.heap[rb]? = some (.cells #[.string s, .int .i64 kd, .int .i64 i, .string x] 191 (0, 0)) := h
  have c0 : w.cell? ⟨rb, 0, none⟩ = some (.string s) := by simp [World.cell?, hh]
  have c1 : w.cell? ⟨rb, 1, none⟩ = some (.int .i64 kd) := by simp [World.cell?, hh]
  have c2 : w.cell? ⟨rb, 2, none⟩ = some (.int .i64 i) := by simp [World.cell?, hh]
  have c3 : w.cell? ⟨rb, 3, none⟩ = some (.string x) := by simp [World.cell?, hh]
  have hrun := run_rest blI s (i + x.size) hi
  have hle := run_le blI s (i + x.size) hi
  have HD : Hid (∀ w, Calls Tryz.prog 118 #[.string (s.extract (i + x.size) s.size), .func (Fn.func 119) #[] #[]] w fun e w' => e = .returned (.int .i64 (run blI (s.extract (i + x.size) s.size) 0 : Nat)) ∧ w' = w) := fun w => lead_blank _ (by simp [ByteArray.size_extract]; omega) w
  have HT : Hid (∀ w, Calls Tryz.prog 120 #[.string s, .int .i64 (run blI s (i + x.size) : Nat)] w fun e w' => e = .returned (.agg #[.int .i64 kd', .int .i64 (run blI s (i + x.size) : Nat), .string y]) ∧ Below w.heap.size w w') := fun w => ptok_some s _ hs hle kd' y k' hT w
  generalize run blI s (i + x.size) = k0 at *
  generalize run blI (s.extract (i + x.size) s.size) 0 = n at *
  have hk0 : (k0 : Int) = (i : Int) + (x.size : Int) + (n : Int) := by omega
  have HT2 : Hid (∀ w, Calls Tryz.prog 120 #[.string s, .int .i64 ((i : Int) + (x.size : Int) + (n : Int))] w fun e w' => e = .returned (.agg #[.int .i64 kd', .int .i64 k0, .string y]) ∧ Below w.heap.size w w') := fun w => by rw [← hk0]; exact HT.out w
  clear hT hk0 HT
  go_enter Tryz.func78, Tryz.ntmps78
  go_wp2_with fail
  go_quiet (fail)
  go_wp2_with fail
  refine Calls.mono (HD.out _) ?_
  rintro e w1 ⟨rfl, rfl⟩
  go_wp2_with fail
  refine Calls.mono (HT2.out _) ?_
  rintro e w2 ⟨rfl, hB2⟩
  have hB : Below w.heap.size w w2 := ⟨hB2.os, hB2.tape, hB2.output, hB2.size, hB2.block⟩
  have h2 : PRd w2 rb s kd i x := (hB.block rb (lt_of_block hh)).trans hh
  have hh2 : w2.heap[rb]? = some (.cells #[.string s, .int .i64 kd, .int .i64 i, .string x] 191 (0, 0)) := h2
  have e1 : w2.cell? ⟨rb, 1, none⟩ = some (.int .i64 kd) := by simp [World.cell?, hh2]
  have e2 : w2.cell? ⟨rb, 2, none⟩ = some (.int .i64 i) := by simp [World.cell?, hh2]
  have e3 : w2.cell? ⟨rb, 3, none⟩ = some (.string x) := by simp [World.cell?, hh2]
  have fz : ∀ q, w2.frozen? ⟨rb, q, none⟩ = false := fun q => by simp [World.frozen?, hh2]
  have hF := h2.set kd' k0 y
  have hK : Kp (· = rb) w (((w2.setCell ⟨rb, 1, none⟩ (.int .i64 kd')).setCell ⟨rb, 2, none⟩ (.int .i64 k0)).setCell ⟨rb, 3, none⟩ (.string y)) :=
    ((Kp.setCell (Kp.setCell (Kp.setCell (S := (· = rb)) ⟨hB.os, hB.tape, hB.output, hB.size, fun q hq _ => hB.block q hq⟩ _ _ (fun _ => rfl)) _ _ (fun _ => rfl)) _ _ (fun _ => rfl)))
  clear hB2 hB h2 hh2 c0 c1 c2 c3 hh h
  go_wp2
  go_end0
  exact ⟨rfl, hK, hF⟩

set_option maxHeartbeats 2000000 in
theorem padv_none (w : World) (rb : Nat) (s x : ByteArray) (kd i : Nat) (h : PRd w rb s kd i x) (hs : s.size ≤ 300) (hi : i + x.size ≤ s.size) (hT : pTok s (run blI s (i + x.size)) = none) :
    Calls Tryz.prog 78 #[.pointer (some ⟨rb, 0, none⟩)] w fun e w' => ∃ b, e = thrown (.iface 83 (.pointer (some ⟨b, 0, none⟩))) ∧ w'.heap[b]? = some (.cells #[.int .i64 (run blI s (i + x.size) : Nat)] 94 (0, 0)) ∧ w.heap.size ≤ b ∧ Below w.heap.size w w' := by
  have hh : w.heap[rb]? = some (.cells #[.string s, .int .i64 kd, .int .i64 i, .string x] 191 (0, 0)) := h
  have c0 : w.cell? ⟨rb, 0, none⟩ = some (.string s) := by simp [World.cell?, hh]
  have c1 : w.cell? ⟨rb, 1, none⟩ = some (.int .i64 kd) := by simp [World.cell?, hh]
  have c2 : w.cell? ⟨rb, 2, none⟩ = some (.int .i64 i) := by simp [World.cell?, hh]
  have c3 : w.cell? ⟨rb, 3, none⟩ = some (.string x) := by simp [World.cell?, hh]
  have hrun := run_rest blI s (i + x.size) hi
  have hle := run_le blI s (i + x.size) hi
  have HD : Hid (∀ w, Calls Tryz.prog 118 #[.string (s.extract (i + x.size) s.size), .func (Fn.func 119) #[] #[]] w fun e w' => e = .returned (.int .i64 (run blI (s.extract (i + x.size) s.size) 0 : Nat)) ∧ w' = w) := fun w => lead_blank _ (by simp [ByteArray.size_extract]; omega) w
  have HT : Hid (∀ w, Calls Tryz.prog 120 #[.string s, .int .i64 (run blI s (i + x.size) : Nat)] w fun e w' => ∃ b, e = thrown (.iface 83 (.pointer (some ⟨b, 0, none⟩))) ∧ w'.heap[b]? = some (.cells #[.int .i64 (run blI s (i + x.size) : Nat)] 94 (0, 0)) ∧ w.heap.size ≤ b ∧ Below w.heap.size w w') := fun w => ptok_none s _ hs hT w
  generalize run blI s (i + x.size) = k0 at *
  generalize run blI (s.extract (i + x.size) s.size) 0 = n at *
  have hk0 : (k0 : Int) = (i : Int) + (x.size : Int) + (n : Int) := by omega
  have HT2 : Hid (∀ w, Calls Tryz.prog 120 #[.string s, .int .i64 ((i : Int) + (x.size : Int) + (n : Int))] w fun e w' => ∃ b, e = thrown (.iface 83 (.pointer (some ⟨b, 0, none⟩))) ∧ w'.heap[b]? = some (.cells #[.int .i64 k0] 94 (0, 0)) ∧ w.heap.size ≤ b ∧ Below w.heap.size w w') := fun w => by rw [← hk0]; exact HT.out w
  clear hT hk0 HT
  go_enter Tryz.func78, Tryz.ntmps78
  go_wp2_with fail
  go_quiet (fail)
  go_wp2_with fail
  refine Calls.mono (HD.out _) ?_
  rintro e w1 ⟨rfl, rfl⟩
  go_wp2_with fail
  refine Calls.mono (HT2.out _) ?_
  rintro e w2 ⟨b, he, hb1, hb2, hB2⟩
  have hB : Below w.heap.size w w2 := ⟨hB2.os, hB2.tape, hB2.output, hB2.size, hB2.block⟩
  rw [he]
  clear he hB2
  go_wp2
  exact ⟨rfl, b, rfl, hb1, hb2, hB⟩
end Go.Proofs.YtleenphlgbklmabGreatDoor

namespace Go.Proofs.YtleenphlgbklmabGreatDoor

def kwIn (kws : List ByteArray) (x : ByteArray) : Bool := kws.any (fun w => sameS x w)
theorem kwFold_in (x : ByteArray) (kws : List ByteArray) (hk : ∀ w, w ∈ kws → w ≠ { data := #[110, 97, 109, 101] }) : kws.foldl (kwStep x) { data := #[110, 97, 109, 101] } = if kwIn kws x then x else { data := #[110, 97, 109, 101] } := by
  induction kws with
  | nil => rfl
  | cons w kws ih =>
    rw [List.foldl_cons]
    have hw := hk w (by simp)
    have ih := ih (fun v hv => hk v (by simp [hv]))
    by_cases e : sameS x w = true
    · have ex := (sameS_iff x w).1 e
      subst ex
      have h1 : kwStep x { data := #[110, 97, 109, 101] } x = x := by unfold kwStep; rw [if_pos (by simp)]
      rw [h1, kwFold_not x x kws (by
        rw [Bool.eq_false_iff]
        intro q
        exact hw ((sameS_iff x { data := #[110, 97, 109, 101] }).1 q))]
      simp [kwIn, e]
    · have h1 : kwStep x { data := #[110, 97, 109, 101] } w = { data := #[110, 97, 109, 101] } := by
        unfold kwStep
        rw [if_neg]
        intro q
        simp only [Bool.and_eq_true] at q
        exact e q.2
      rw [h1, ih]
      have e' : sameS x w = false := by simpa using e
      simp [kwIn, e']

theorem sign_one (s : ByteArray) (i : Nat) (h : i < s.size) : s.extract i (i + 1) = ⟨#[s[i]]⟩ := by
  apply ByteArray.ext
  rw [ByteArray.data_extract]
  apply Array.ext
  · simp; omega
  · intro j h1 h2
    have : j = 0 := by simp at h2; omega
    subst this
    simp
    rfl
theorem arr_two (s : ByteArray) (i : Nat) (h : chr s i = 45 ∧ i + 1 < s.size ∧ chr s (i + 1) = 62) : s.extract i (i + 2) = { data := #[45, 62] } := by
  obtain ⟨h1, h2, h3⟩ := h
  have c1 := chr_eq s i (by omega)
  have c2 := chr_eq s (i + 1) h2
  rw [h1] at c1
  rw [h3] at c2
  have e1 : s[i] = 45 := UInt8.toNat_inj.1 (by have : ((45 : UInt8).toNat) = 45 := rfl; omega)
  have e2 : s[i + 1] = 62 := UInt8.toNat_inj.1 (by have : ((62 : UInt8).toNat) = 62 := rfl; omega)
  apply ByteArray.ext
  rw [ByteArray.data_extract]
  apply Array.ext
  · simp; omega
  · intro j h1 h2
    have : j = 0 ∨ j = 1 := by simp at h2; omega
    rcases this with rfl | rfl
    · simp; exact e1
    · simp; exact e2

/-- the document's token and the program's, at one place. -/
inductive Link (s : ByteArray) (kws : List ByteArray) (i : Nat) (t : Tk) (k : Nat) : Prop
  | fin : i = s.size → t.is = { data := #[101, 110, 100] } → t.s = { data := #[] } → pTok s i = some (0, { data := #[] }, i) → k = i → Link s kws i t k
  | bad : t.is = { data := #[110, 111, 110, 101] } → pTok s i = none → Link s kws i t k
  | word : i < s.size → lowI (chr s i) = true → pTok s i = some (1, t.s, k) → t.is = (if kwIn kws t.s then t.s else { data := #[110, 97, 109, 101] }) → Link s kws i t k
  | num : i < s.size → lowI (chr s i) = false → figI (chr s i) = true → pTok s i = some (2, t.s, k) → t.is = { data := #[110, 117, 109] } → Link s kws i t k
  | sign : i < s.size → lowI (chr s i) = false → figI (chr s i) = false → pTok s i = some (3, t.s, k) → t.is = t.s → (t.s = { data := #[45, 62] } ∨ ∃ (h : i < s.size), t.s = ⟨#[s[i]]⟩ ∧ isSign (chr s i) = true) → Link s kws i t k

theorem tok_link (s : ByteArray) (kws : List ByteArray) (hk : ∀ w, w ∈ kws → w ≠ { data := #[110, 97, 109, 101] }) (i : Nat) (hi : i ≤ s.size) : Link s kws i (tok1 s kws i).1 (tok1 s kws i).2 := by
  by_cases h0 : i < s.size
  · by_cases h1 : lowI (chr s i) = true
    · have eI : clsI s i = { data := #[110, 97, 109, 101] } := by rw [clsI, if_pos h0, if_pos h1]
      have eK : clsK s i = run lfI s i := by rw [clsK, if_pos h0, if_pos h1]
      by_cases h8 : run lfI s i - i ≤ 8
      · refine .word h0 h1 ?_ ?_
        · simp only [pTok, if_pos h0, if_pos h1, if_pos h8, tok1, eK]
        · simp only [tok1, eI, eK]
          have : clsB { data := #[110, 97, 109, 101] } (run lfI s i - i) = { data := #[110, 97, 109, 101] } := by unfold clsB; rw [if_neg (by simp; intro _; omega)]
          rw [this]
          exact kwFold_in _ kws hk
      · refine .bad ?_ ?_
        · simp only [tok1, eI, eK]
          have : clsB { data := #[110, 97, 109, 101] } (run lfI s i - i) = { data := #[110, 111, 110, 101] } := by
            unfold clsB
            rw [if_pos (by
              have a : isNN { data := #[110, 97, 109, 101] } = true := by decide
              rw [a]; simp; omega)]
          rw [this]
          exact kwFold_not _ _ _ (by decide)
        · simp only [pTok, if_pos h0, if_pos h1, if_neg h8]
    · have h1' : lowI (chr s i) = false := by simpa using h1
      by_cases h2 : figI (chr s i) = true
      · have eI : clsI s i = { data := #[110, 117, 109] } := by rw [clsI, if_pos h0, if_neg h1, if_pos h2]
        have eK : clsK s i = run figI s i := by rw [clsK, if_pos h0, if_neg h1, if_pos h2]
        by_cases h8 : run figI s i - i ≤ 8
        · refine .num h0 h1' h2 ?_ ?_
          · simp only [pTok, if_pos h0, if_neg h1, if_pos h2, if_pos h8, tok1, eK]
          · simp only [tok1, eI, eK]
            have : clsB { data := #[110, 117, 109] } (run figI s i - i) = { data := #[110, 117, 109] } := by unfold clsB; rw [if_neg (by simp; intro _; omega)]
            rw [this]
            exact kwFold_not _ _ _ (by decide)
        · refine .bad ?_ ?_
          · simp only [tok1, eI, eK]
            have : clsB { data := #[110, 117, 109] } (run figI s i - i) = { data := #[110, 111, 110, 101] } := by
              unfold clsB
              rw [if_pos (by
                have a : isNN { data := #[110, 117, 109] } = true := by decide
                rw [a]; simp; omega)]
            rw [this]
            exact kwFold_not _ _ _ (by decide)
          · simp only [pTok, if_pos h0, if_neg h1, if_pos h2, if_neg h8]
      · have h2' : figI (chr s i) = false := by simpa using h2
        by_cases h3 : chr s i = 45 ∧ i + 1 < s.size ∧ chr s (i + 1) = 62
        · have eI : clsI s i = { data := #[45, 62] } := by rw [clsI, if_pos h0, if_neg h1, if_neg h2, if_pos h3]
          have eK : clsK s i = i + 2 := by rw [clsK, if_pos h0, if_neg h1, if_neg h2, if_pos h3]
          have ex := arr_two s i h3
          refine .sign h0 h1' h2' ?_ ?_ (.inl ?_)
          · simp only [pTok, if_pos h0, if_neg h1, if_neg h2, if_pos h3, tok1, eK]
          · simp only [tok1, eI, eK, ex]
            rw [clsB_not _ _ (by decide)]
            exact kwFold_not _ _ _ (by decide)
          · simp only [tok1, eK, ex]
        · by_cases h4 : isSign (chr s i) = true
          · have eI : clsI s i = s.extract i (i + 1) := by rw [clsI, if_pos h0, if_neg h1, if_neg h2, if_neg h3, if_pos h4]
            have eK : clsK s i = i + 1 := by rw [clsK, if_pos h0, if_neg h1, if_neg h2, if_neg h3, if_pos h4]
            have ex := sign_one s i h0
            have hne : ∀ w : ByteArray, w.size ≠ 1 → ((⟨#[s[i]]⟩ : ByteArray).data.toList == w.data.toList) = false := fun w hw => by
              rw [Bool.eq_false_iff]
              intro q
              have q := (sameS_iff _ w).1 q
              rw [← q] at hw
              exact hw rfl
            refine .sign h0 h1' h2' ?_ ?_ (.inr ⟨h0, ?_, h4⟩)
            · simp only [pTok, if_pos h0, if_neg h1, if_neg h2, if_neg h3, if_pos h4, tok1, eK]
            · simp only [tok1, eI, eK, ex]
              rw [clsB_not _ _ (by unfold isNN; rw [hne _ (by decide), hne _ (by decide)]; rfl)]
              exact kwFold_not _ _ _ (hne _ (by decide))
            · simp only [tok1, eK, ex]
          · have eI : clsI s i = { data := #[110, 111, 110, 101] } := by rw [clsI, if_pos h0, if_neg h1, if_neg h2, if_neg h3, if_neg h4]
            refine .bad ?_ ?_
            · simp only [tok1, eI]
              rw [clsB_not _ _ (by decide)]
              exact kwFold_not _ _ _ (by decide)
            · simp only [pTok, if_pos h0, if_neg h1, if_neg h2, if_neg h3, if_neg h4]
  · have hz : i = s.size := by omega
    have eI : clsI s i = { data := #[101, 110, 100] } := by rw [clsI, if_neg h0]
    have eK : clsK s i = i := by rw [clsK, if_neg h0]
    refine .fin hz ?_ ?_ ?_ ?_
    · simp only [tok1, eI]
      rw [clsB_not _ _ (by decide)]
      exact kwFold_not _ _ _ (by decide)
    · simp only [tok1, eK]
      rw [hz]
      exact ext_empty s
    · simp only [pTok, if_neg h0]
    · exact eK
end Go.Proofs.YtleenphlgbklmabGreatDoor

namespace Go.Proofs.YtleenphlgbklmabGreatDoor
open Go.RowKit

/-- the sentinels and errors' own type, as the program's variables hold them. -/
structure Glb (A : Nat → Addr) (w : World) : Prop where
  blk : ∀ k, k < 8 → ∃ c t, w.heap[(A k).block]? = some (.cells c t (0, 0))
  ne : ∀ i j, i < 8 → j < 8 → i ≠ j → A i ≠ A j
  c0 : w.cell? ⟨0, 0, none⟩ = some (.iface 342 (.pointer (some (A 0))))
  c1 : w.cell? ⟨1, 0, none⟩ = some (.iface 342 (.pointer (some (A 1))))
  c2 : w.cell? ⟨2, 0, none⟩ = some (.iface 342 (.pointer (some (A 2))))
  c3 : w.cell? ⟨3, 0, none⟩ = some (.iface 342 (.pointer (some (A 3))))
  c4 : w.cell? ⟨4, 0, none⟩ = some (.iface 342 (.pointer (some (A 4))))
  c5 : w.cell? ⟨5, 0, none⟩ = some (.iface 342 (.pointer (some (A 5))))
  c6 : w.cell? ⟨6, 0, none⟩ = some (.iface 342 (.pointer (some (A 6))))
  c7 : w.cell? ⟨7, 0, none⟩ = some (.iface 342 (.pointer (some (A 7))))
  et : w.cell? ⟨8, 0, none⟩ = some (.iface 206 (.agg #[.pointer (some ⟨13, 56, none⟩)]))

theorem Glb.below {A : Nat → Addr} {w w' : World} (h : Glb A w) (hb : Below w.heap.size w w') : Glb A w' := by
  have cc : ∀ {a : Addr} {v : Value}, w.cell? a = some v → w'.cell? a = some v := fun {a v} e => (hb.cell (World.block_lt_of_cell? _ _ e)).trans e
  refine ⟨fun k hk => ?_, h.ne, cc h.c0, cc h.c1, cc h.c2, cc h.c3, cc h.c4, cc h.c5, cc h.c6, cc h.c7, cc h.et⟩
  obtain ⟨c, t, e⟩ := h.blk k hk
  exact ⟨c, t, (hb.block _ (lt_of_block e)).trans e⟩

/-- what plain tells of an error. -/
def faultVal (what loc : Int) (s : ByteArray) : Value := .agg #[.int .i64 what, .int .i64 loc, .string s, .int .i64 0, .int .i64 0]

/-- the number by which plain tells a sentinel. -/
def senNo (j : Nat) : Int := [1, 3, 6, 7, 8, 9, 10, 11].getD j (-1)

/-- the world behind the variables of plain.fault. -/
def fltW (w : World) : World := (((w.alloc (.cells #[.int .i64 0, .int .i64 0, .string { data := #[] }, .int .i64 0, .int .i64 0] 23)).alloc (.cells #[.pointer none] 83)).alloc (.cells #[.pointer none] 84)).alloc (.cells #[.pointer none] 85)
theorem fltW_size (w : World) : (fltW w).heap.size = w.heap.size + 4 := by simp [fltW]
theorem fltW_below (w : World) : Below w.heap.size w (fltW w) := ((((Below.refl _ _).alloc (by simp) _).alloc (by simp) _).alloc (by simp; omega) _).alloc (by simp; omega) _
theorem fltW_r (w : World) : (fltW w).heap[w.heap.size]? = some (.cells #[.int .i64 0, .int .i64 0, .string { data := #[] }, .int .i64 0, .int .i64 0] 23 (0, 0)) := by
  unfold fltW
  rw [Below.heap_alloc _ _ _ (by simp; omega), Below.heap_alloc _ _ _ (by simp; omega), Below.heap_alloc _ _ _ (by simp)]
  exact heap_alloc_new _ _
theorem fltW_s (w : World) : (fltW w).heap[w.heap.size + 1]? = some (.cells #[.pointer none] 83 (0, 0)) := by
  unfold fltW
  rw [Below.heap_alloc _ _ _ (by simp), Below.heap_alloc _ _ _ (by simp)]
  have := heap_alloc_new (w.alloc (.cells #[.int .i64 0, .int .i64 0, .string { data := #[] }, .int .i64 0, .int .i64 0] 23)) (.cells #[.pointer none] 83)
  simpa using this

/-- the result, stored. -/
def fltSet (w : World) (fb : Nat) (v0 v1 v2 v3 v4 : Value) : World := ((((w.setCell ⟨fb, 0, none⟩ v0).setCell ⟨fb, 1, none⟩ v1).setCell ⟨fb, 2, none⟩ v2).setCell ⟨fb, 3, none⟩ v3).setCell ⟨fb, 4, none⟩ v4
theorem fltSet_blk {w : World} {fb : Nat} {a b c d e : Value} {t : TypeId} (h : w.heap[fb]? = some (.cells #[a, b, c, d, e] t (0, 0))) (v0 v1 v2 v3 v4 : Value) : (fltSet w fb v0 v1 v2 v3 v4).heap[fb]? = some (.cells #[v0, v1, v2, v3, v4] t (0, 0)) := by
  simp [fltSet, World.setCell, h, Array.getElem?_modify]
theorem fltSet_below {B : Nat} {a w : World} (h : Below B a w) {fb : Nat} (hf : B ≤ fb) (v0 v1 v2 v3 v4 : Value) : Below B a (fltSet w fb v0 v1 v2 v3 v4) :=
  ((((h.setCell (by simpa using hf) _).setCell (by simpa using hf) _).setCell (by simpa using hf) _).setCell (by simpa using hf) _).setCell (by simpa using hf) _

set_option maxRecDepth 20000 in
set_option maxHeartbeats 4000000 in
theorem fault_nil (w : World) : Calls Tryz.prog 22 #[.nilIface] w fun e w' => e = .returned (faultVal 0 0 { data := #[] }) ∧ Below w.heap.size w w' := by
  go_enter Tryz.func22, Tryz.ntmps22
  go_wp2_with (go_at_call 38; refine (as_nil _ _).mono ?_; rintro e w' ⟨rfl, hww⟩; rw [hww]; clear hww w')
  change bodyPost _ _ _ _ _ (fltW w)
  have hr := fltW_r w
  have hB := fltW_below w
  generalize fltW w = w1 at *
  have d0 : w1.cell? ⟨w.heap.size, 0, none⟩ = some (.int .i64 0) := by simp [World.cell?, hr]
  have d1 : w1.cell? ⟨w.heap.size, 1, none⟩ = some (.int .i64 0) := by simp [World.cell?, hr]
  have d2 : w1.cell? ⟨w.heap.size, 2, none⟩ = some (.string { data := #[] }) := by simp [World.cell?, hr]
  have d3 : w1.cell? ⟨w.heap.size, 3, none⟩ = some (.int .i64 0) := by simp [World.cell?, hr]
  have d4 : w1.cell? ⟨w.heap.size, 4, none⟩ = some (.int .i64 0) := by simp [World.cell?, hr]
  exact bodyPost_ret (v := faultVal 0 0 { data := #[] }) (by simp [results, Tryz.results22, go_sem, faultVal, d0, d1, d2, d3, d4]) rfl ⟨rfl, hB⟩

set_option maxRecDepth 20000 in
set_option maxHeartbeats 4000000 in
theorem fault_syn {A : Nat → Addr} (w : World) (hG : Glb A w) (a : Addr) (loc : Int) (ha : w.cell? a = some (.int .i64 loc)) :
    Calls Tryz.prog 22 #[.iface 83 (.pointer (some a))] w fun e w' => e = .returned (faultVal 2 loc { data := #[] }) ∧ Below w.heap.size w w' := by
  have hB := fltW_below w
  have hr := fltW_r w
  have hs := fltW_s w
  have hz := fltW_size w
  have hg := (hG.below hB).et
  have ha1 : (fltW w).cell? a = some (.int .i64 loc) := (hB.cell (World.block_lt_of_cell? _ _ ha)).trans ha
  have hab := World.block_lt_of_cell? _ _ ha
  clear hG ha
  go_enter Tryz.func22, Tryz.ntmps22
  go_wp2_with fail
  change Calls _ _ _ (fltW w) _
  generalize fltW w = w1 at *
  refine (as_miss_env_syn _ _ _ hg).mono ?_
  rintro e w2 ⟨rfl, hww⟩
  have hB2 : Below w1.heap.size w1 w2 := by rw [hww]; exact (((Below.refl _ _).alloc (by simp) _).alloc (by simp) _).alloc (by simp; omega) _
  clear hww
  have hz2 := hB2.size
  have hg2 := (hB2.cell (World.block_lt_of_cell? _ _ hg)).trans hg
  have hr2 := (hB2.block _ (by omega)).trans hr
  have hs2 := (hB2.block _ (by omega)).trans hs
  have ha2 := (hB2.cell (World.block_lt_of_cell? _ _ ha1)).trans ha1
  have hBB := hB.trans (hB2.mono (by omega))
  clear hB hB2 hg hr hs ha1
  go_wp2_with fail
  have hs0 : w2.cell? ⟨w.heap.size + 1, 0, none⟩ = some (.pointer none) := by simp [World.cell?, hs2]
  have hf0 : w2.frozen? ⟨w.heap.size + 1, 0, none⟩ = false := by simp [World.frozen?, hs2]
  refine (as_hit_syn a _ _ w2 hs0 hf0 hg2).mono ?_
  rintro e w3 ⟨rfl, hww⟩
  have hB3 : Below w2.heap.size w2 ((((w2.alloc (.cells #[.pointer (some ⟨w.heap.size + 1, 0, none⟩)] 92)).alloc (.cells #[.pointer (some ⟨13, 92, none⟩), .pointer (some ⟨w2.heap.size, 0, none⟩), .int .u64 150] 129)).alloc (.cells #[.pointer (some ⟨13, 92, none⟩), .pointer (some ⟨w2.heap.size, 0, none⟩), .int .u64 150] 129)).alloc (.cells #[.pointer (some a)] 83)) := ((((Below.refl _ _).alloc (by simp) _).alloc (by simp) _).alloc (by simp; omega) _).alloc (by simp; omega) _
  generalize (((w2.alloc (.cells #[.pointer (some ⟨w.heap.size + 1, 0, none⟩)] 92)).alloc (.cells #[.pointer (some ⟨13, 92, none⟩), .pointer (some ⟨w2.heap.size, 0, none⟩), .int .u64 150] 129)).alloc (.cells #[.pointer (some ⟨13, 92, none⟩), .pointer (some ⟨w2.heap.size, 0, none⟩), .int .u64 150] 129)).alloc (.cells #[.pointer (some a)] 83) = w25 at *
  have hz3 := hB3.size
  have hr3 : w3.heap[w.heap.size]? = some (.cells #[.int .i64 0, .int .i64 0, .string { data := #[] }, .int .i64 0, .int .i64 0] 23 (0, 0)) := by rw [hww, Below.heap_setCell _ _ _ _ (by show w.heap.size ≠ w.heap.size + 1; omega), hB3.block _ (by omega)]; exact hr2
  have hs3 : w3.cell? ⟨w.heap.size + 1, 0, none⟩ = some (.pointer (some a)) := by
    rw [hww]
    have : w25.heap[w.heap.size + 1]? = some (.cells #[.pointer none] 83 (0, 0)) := (hB3.block _ (by omega)).trans hs2
    simp [World.cell?, World.setCell, this, Array.getElem?_modify]
  have ha3 : w3.cell? a = some (.int .i64 loc) := by
    rw [hww, World.cell?_setCell_other _ _ _ _ (fun e => by rw [← e] at hab; simp at hab; omega), hB3.cell (by omega)]
    exact ha2
  have hB3' : Below w.heap.size w w3 := by
    rw [hww]
    exact (hBB.trans (hB3.mono (by omega))).setCell (by simp) _
  clear hww hB3 hBB hg2 hr2 hs2 ha2 hs0 hf0
  clear hz hz2 hz3
  have d0 : w3.cell? ⟨w.heap.size, 0, none⟩ = some (.int .i64 0) := by simp [World.cell?, hr3]
  have d1 : w3.cell? ⟨w.heap.size, 1, none⟩ = some (.int .i64 0) := by simp [World.cell?, hr3]
  have d2 : w3.cell? ⟨w.heap.size, 2, none⟩ = some (.string { data := #[] }) := by simp [World.cell?, hr3]
  have d3 : w3.cell? ⟨w.heap.size, 3, none⟩ = some (.int .i64 0) := by simp [World.cell?, hr3]
  have d4 : w3.cell? ⟨w.heap.size, 4, none⟩ = some (.int .i64 0) := by simp [World.cell?, hr3]
  have fz : ∀ i, w3.frozen? ⟨w.heap.size, i, none⟩ = false := fun i => by simp [World.frozen?, hr3]
  go_wp2
  change bodyPost _ _ _ _ _ (fltSet w3 w.heap.size (.int .i64 2) (.int .i64 loc) (.string { data := #[] }) (.int .i64 0) (.int .i64 0))
  have hr4 := fltSet_blk hr3 (.int .i64 2) (.int .i64 loc) (.string { data := #[] }) (.int .i64 0) (.int .i64 0)
  have hB4 := fltSet_below hB3' (Nat.le_refl _) (.int .i64 2) (.int .i64 loc) (.string { data := #[] }) (.int .i64 0) (.int .i64 0)
  generalize fltSet w3 w.heap.size (.int .i64 2) (.int .i64 loc) (.string { data := #[] }) (.int .i64 0) (.int .i64 0) = w4 at *
  clear d0 d1 d2 d3 d4
  have d0 : w4.cell? ⟨w.heap.size, 0, none⟩ = some (.int .i64 2) := by simp [World.cell?, hr4]
  have d1 : w4.cell? ⟨w.heap.size, 1, none⟩ = some (.int .i64 loc) := by simp [World.cell?, hr4]
  have d2 : w4.cell? ⟨w.heap.size, 2, none⟩ = some (.string { data := #[] }) := by simp [World.cell?, hr4]
  have d3 : w4.cell? ⟨w.heap.size, 3, none⟩ = some (.int .i64 0) := by simp [World.cell?, hr4]
  have d4 : w4.cell? ⟨w.heap.size, 4, none⟩ = some (.int .i64 0) := by simp [World.cell?, hr4]
  exact bodyPost_ret (v := faultVal 2 loc { data := #[] }) (by simp [results, Tryz.results22, go_sem, faultVal, d0, d1, d2, d3, d4]) rfl ⟨rfl, hB4⟩
end Go.Proofs.YtleenphlgbklmabGreatDoor

namespace Go.Proofs.YtleenphlgbklmabGreatDoor
open Go.RowKit

/-- all that lay there is as it was (the tape may have been asked). -/
structure Kept (w w' : World) : Prop where
  os : w'.os = w.os
  output : w'.output = w.output
  size : w.heap.size ≤ w'.heap.size
  block : ∀ k, k < w.heap.size → w'.heap[k]? = w.heap[k]?
theorem Kept.refl (w : World) : Kept w w := ⟨rfl, rfl, Nat.le_refl _, fun _ _ => rfl⟩
theorem Kept.trans {a b c : World} (h : Kept a b) (k : Kept b c) : Kept a c := ⟨k.os.trans h.os, k.output.trans h.output, Nat.le_trans h.size k.size, fun i hi => (k.block i (Nat.lt_of_lt_of_le hi h.size)).trans (h.block i hi)⟩
theorem Kept.below {w w' : World} (h : Below w.heap.size w w') : Kept w w' := ⟨h.os, h.output, h.size, h.block⟩
theorem Kept.alike {w w' : World} (h : w'.Alike w) : Kept w w' := ⟨h.2.1, h.2.2, by rw [h.1]; exact Nat.le_refl _, fun k _ => by rw [h.1]⟩
theorem Kept.cell {w w' : World} (h : Kept w w') {a : Addr} {v : Value} (e : w.cell? a = some v) : w'.cell? a = some v := (World.cell?_of_block (h.block a.block (World.block_lt_of_cell? _ _ e))).trans e
theorem Kept.blk {w w' : World} (h : Kept w w') {k : Nat} {o : Obj} (e : w.heap[k]? = some o) : w'.heap[k]? = some o := (h.block k (lt_of_block e)).trans e
theorem Glb.kept {A : Nat → Addr} {w w' : World} (h : Glb A w) (hb : Kept w w') : Glb A w' := by
  refine ⟨fun k hk => ?_, h.ne, hb.cell h.c0, hb.cell h.c1, hb.cell h.c2, hb.cell h.c3, hb.cell h.c4, hb.cell h.c5, hb.cell h.c6, hb.cell h.c7, hb.cell h.et⟩
  obtain ⟨c, t, e⟩ := h.blk k hk
  exact ⟨c, t, hb.blk e⟩
theorem Glb.is {A : Nat → Addr} {w : World} (h : Glb A w) (i j : Nat) (hi : i < 8) (hj : j < 8) :
    Calls Tryz.prog 40 #[.iface 342 (.pointer (some (A i))), .iface 342 (.pointer (some (A j)))] w fun e w' => e = .returned (.bool (decide (i = j))) ∧ w' = w := by
  by_cases e : i = j
  · subst e
    have : decide (i = i) = true := by simp
    rw [this]
    exact is_same _ _
  · obtain ⟨c, t, hc⟩ := h.blk i hi
    obtain ⟨c', t', hc'⟩ := h.blk j hj
    have : decide (i = j) = false := by simp [e]
    rw [this]
    exact is_other _ _ c c' t t' w (h.ne i j hi hj e) hc hc'

/-- an entry of the map of sentinels. -/
def senE (A : Nat → Addr) (j : Nat) : MapEntry := { key := .int .i64 (senNo j), val := .iface 342 (.pointer (some (A j))), born := j }
def senEs (A : Nat → Addr) (n : Nat) : Array MapEntry := ((List.range n).map (senE A)).toArray
theorem senEs_succ (A : Nat → Addr) (n : Nat) : (senEs A n).push (senE A n) = senEs A (n + 1) := by
  simp [senEs, List.range_succ]
theorem senEs_mem {A : Nat → Addr} {n : Nat} {e : MapEntry} (h : e ∈ (senEs A n).toList) : ∃ i, i < n ∧ e = senE A i := by
  simp [senEs] at h
  obtain ⟨i, hi, rfl⟩ := h
  exact ⟨i, hi, rfl⟩
theorem senEs_nodup (A : Nat → Addr) (n : Nat) : ((senEs A n).toList.map (·.born)).Nodup := by
  have : (senEs A n).toList.map (·.born) = List.range n := by
    simp only [senEs, List.map_map]
    exact List.map_id'' (fun x => rfl) _
  rw [this]
  exact List.nodup_range
theorem run_insert_new {P : Program} (w : World) (mty kt et : TypeId) (es : Array MapEntry) (clock : Nat) (k : Int) (val : Value) (hm : P.underlying mty = some (.map kt et)) (hk : P.underlying kt = some (.int .i64)) (hf : Instr.findNow (.int .i64) (.int .i64 k) es.toList 0 = some none) (hkk : MapKept.IsKey (.int .i64) (.int .i64 k)) :
    (Instr.mapUpdate mty (.map (some w.heap.size)) (.int .i64 k) val).run P (w.alloc (.map es clock)) = .ok () (w.alloc (.map (es.push { key := .int .i64 k, val := val, born := clock }) (clock + 1))) := by
  have hb : (w.alloc (.map es clock)).heap[w.heap.size]? = some (.map es clock) := heap_alloc_new _ _
  have hc : (Instr.checkKey false 10000 kt (.int .i64 k)).run P (w.alloc (.map es clock)) = .ok () (w.alloc (.map es clock)) := MapKept.run_checkKey hk hkk false 9999
  have hset : ({ w.alloc (.map es clock) with heap := (w.alloc (.map es clock)).heap.setIfInBounds w.heap.size (.map (es.push { key := .int .i64 k, val := val, born := clock }) (clock + 1)) } : World) = w.alloc (.map (es.push { key := .int .i64 k, val := val, born := clock }) (clock + 1)) := by
    have h : (w.heap.push (.map es clock)).setIfInBounds w.heap.size (.map (es.push { key := .int .i64 k, val := val, born := clock }) (clock + 1)) = w.heap.push (.map (es.push { key := .int .i64 k, val := val, born := clock }) (clock + 1)) := by
      apply Array.ext_getElem?
      intro i
      rw [Array.getElem?_setIfInBounds, Array.getElem?_push, Array.getElem?_push]
      by_cases e : w.heap.size = i
      · subst e; simp
      · have e2 : i ≠ w.heap.size := fun q => e q.symm
        simp [e, e2]
    show ({ w with heap := (w.heap.push (.map es clock)).setIfInBounds w.heap.size _ } : World) = { w with heap := w.heap.push _ }
    rw [h]
  simp only [Instr.mapUpdate, Sem.run_bind, run_underlying hm, MapKept.run_getObj_map hb, hc, MapKept.run_findKey hk hf, MapKept.run_setObj_map _ hb, Result.andThen]
  simpa using hset
theorem sen_insert (A : Nat → Addr) (w : World) (j : Nat) (hj : j < 8) :
    (Instr.mapUpdate 98 (.map (some w.heap.size)) (.int .i64 (senNo j)) (.iface 342 (.pointer (some (A j))))).run Tryz.prog (w.alloc (.map (senEs A j) j)) = .ok () (w.alloc (.map (senEs A (j + 1)) (j + 1))) := by
  rw [← senEs_succ]
  refine run_insert_new w 98 3 56 _ _ _ _ Tryz.underlying98 Tryz.underlying3 ?_ ?_
  · match j, hj with
    | 0, _ => rfl
    | 1, _ => rfl
    | 2, _ => rfl
    | 3, _ => rfl
    | 4, _ => rfl
    | 5, _ => rfl
    | 6, _ => rfl
    | 7, _ => rfl
  · simp [MapKept.IsKey]

set_option maxRecDepth 20000 in
set_option maxHeartbeats 4000000 in
theorem fault_sen {A : Nat → Addr} (w : World) (hG : Glb A w) (j : Nat) (hj : j < 8) :
    Calls Tryz.prog 22 #[.iface 342 (.pointer (some (A j)))] w fun e w' => e = .returned (faultVal (senNo j) 0 { data := #[] }) ∧ Kept w w' := by
  have hB := fltW_below w
  have hr := fltW_r w
  have hz := fltW_size w
  have hG1 := hG.below hB
  clear hG
  go_enter Tryz.func22, Tryz.ntmps22
  go_wp2_with fail
  change Calls _ _ _ (fltW w) _
  generalize fltW w = w1 at *
  refine (as_miss_env_es _ _ _ hG1.et).mono ?_
  rintro e w2 ⟨rfl, hww⟩
  have hB2 : Below w1.heap.size w1 w2 := by rw [hww]; exact (((Below.refl _ _).alloc (by simp) _).alloc (by simp) _).alloc (by simp; omega) _
  clear hww
  have hz2 := hB2.size
  have hG2 := hG1.below hB2
  have hr2 := (hB2.block _ (by omega)).trans hr
  have hBB := hB.trans (hB2.mono (by omega))
  clear hB hB2 hG1 hr
  go_wp2_with fail
  refine (as_miss_syn_es _ _ _ hG2.et).mono ?_
  rintro e w3 ⟨rfl, hww⟩
  have hB2 : Below w2.heap.size w2 w3 := by rw [hww]; exact (((Below.refl _ _).alloc (by simp) _).alloc (by simp) _).alloc (by simp; omega) _
  clear hww
  have hz3 := hB2.size
  have hG3 := hG2.below hB2
  have hr3 := (hB2.block _ (by omega)).trans hr2
  have hB3 := hBB.trans (hB2.mono (by omega))
  clear hBB hB2 hG2 hr2
  go_wp2_with fail
  refine (as_miss_unb_es _ _ _ hG3.et).mono ?_
  rintro e w4 ⟨rfl, hww⟩
  have hB2 : Below w3.heap.size w3 w4 := by rw [hww]; exact (((Below.refl _ _).alloc (by simp) _).alloc (by simp) _).alloc (by simp; omega) _
  clear hww
  have hz4 := hB2.size
  have hG4 := hG3.below hB2
  have hr4 := (hB2.block _ (by omega)).trans hr3
  have hB4 := hB3.trans (hB2.mono (by omega))
  clear hB3 hB2 hG3 hr3
  have hwz : w.heap.size + 4 ≤ w4.heap.size := by omega
  clear hz hz2 hz3 hz4
  have gl : ∀ (g : Nat) (v : Value), w4.cell? ⟨g, 0, none⟩ = some v → ∀ o, (w4.alloc o).cell? ⟨g, 0, none⟩ = some v := fun g v e o => (World.cell?_of_block (Below.heap_alloc w4 o g (World.block_lt_of_cell? _ _ e))).trans e
  have c0 := gl _ _ hG4.c0
  have c1 := gl _ _ hG4.c1
  have c2 := gl _ _ hG4.c2
  have c3 := gl _ _ hG4.c3
  have c4 := gl _ _ hG4.c4
  have c5 := gl _ _ hG4.c5
  have c6 := gl _ _ hG4.c6
  have c7 := gl _ _ hG4.c7
  clear gl
  have hmk : (Instr.makeMap 98 none).run Tryz.prog w4 = .ok (.map (some w4.heap.size)) (w4.alloc (.map #[] 0)) := rfl
  have i0 : (Instr.mapUpdate 98 (.map (some w4.heap.size)) (.int .i64 1) (.iface 342 (.pointer (some (A 0))))).run Tryz.prog (w4.alloc (.map #[] 0)) = .ok () (w4.alloc (.map (senEs A 1) 1)) := sen_insert A w4 0 (by decide)
  have i1 : (Instr.mapUpdate 98 (.map (some w4.heap.size)) (.int .i64 3) (.iface 342 (.pointer (some (A 1))))).run Tryz.prog (w4.alloc (.map (senEs A 1) 1)) = .ok () (w4.alloc (.map (senEs A 2) 2)) := sen_insert A w4 1 (by decide)
  have i2 : (Instr.mapUpdate 98 (.map (some w4.heap.size)) (.int .i64 6) (.iface 342 (.pointer (some (A 2))))).run Tryz.prog (w4.alloc (.map (senEs A 2) 2)) = .ok () (w4.alloc (.map (senEs A 3) 3)) := sen_insert A w4 2 (by decide)
  have i3 : (Instr.mapUpdate 98 (.map (some w4.heap.size)) (.int .i64 7) (.iface 342 (.pointer (some (A 3))))).run Tryz.prog (w4.alloc (.map (senEs A 3) 3)) = .ok () (w4.alloc (.map (senEs A 4) 4)) := sen_insert A w4 3 (by decide)
  have i4 : (Instr.mapUpdate 98 (.map (some w4.heap.size)) (.int .i64 8) (.iface 342 (.pointer (some (A 4))))).run Tryz.prog (w4.alloc (.map (senEs A 4) 4)) = .ok () (w4.alloc (.map (senEs A 5) 5)) := sen_insert A w4 4 (by decide)
  have i5 : (Instr.mapUpdate 98 (.map (some w4.heap.size)) (.int .i64 9) (.iface 342 (.pointer (some (A 5))))).run Tryz.prog (w4.alloc (.map (senEs A 5) 5)) = .ok () (w4.alloc (.map (senEs A 6) 6)) := sen_insert A w4 5 (by decide)
  have i6 : (Instr.mapUpdate 98 (.map (some w4.heap.size)) (.int .i64 10) (.iface 342 (.pointer (some (A 6))))).run Tryz.prog (w4.alloc (.map (senEs A 6) 6)) = .ok () (w4.alloc (.map (senEs A 7) 7)) := sen_insert A w4 6 (by decide)
  have i7 : (Instr.mapUpdate 98 (.map (some w4.heap.size)) (.int .i64 11) (.iface 342 (.pointer (some (A 7))))).run Tryz.prog (w4.alloc (.map (senEs A 7) 7)) = .ok () (w4.alloc (.map (senEs A 8) 8)) := sen_insert A w4 7 (by decide)
  have hb5 : (w4.alloc (.map (senEs A 8) 8)).heap[w4.heap.size]? = some (.map (senEs A 8) 8) := heap_alloc_new _ _
  have hK5 : Kept w4 (w4.alloc (.map (senEs A 8) 8)) := Kept.below ((Below.refl _ _).alloc (by simp) _)
  have hG5 := hG4.kept hK5
  have hr5 := hK5.blk hr4
  have hKw := (Kept.below hB4).trans hK5
  clear hG4 hr4 hB4 hK5
  have hrg := run_range_map (P := Tryz.prog) (w4.alloc (.map (senEs A 8) 8)) 98 3 56 w4.heap.size (senEs A 8) 8 Tryz.underlying98 hb5
  go_wp2_with fail
  have h5 : (w4.alloc (.map (senEs A 8) 8)).heap.size = w4.heap.size + 1 := by simp
  generalize w4.alloc (.map (senEs A 8) 8) = w5 at *
  clear c0 c1 c2 c3 c4 c5 c6 c7 i0 i1 i2 i3 i4 i5 i6 i7 hmk
  generalize w4.heap.size = bm at *
  go_loopw [] (fun w' => ∃ (v1 : World) (seen : Array Nat), v1.Alike w5 ∧ w' = v1.alloc (.mapIter (some bm) 8 seen 8) ∧ seen.contains j = false) (fun w' => (leftOf (senEs A 8) (w'.iterSeen (bm + 1))).size)
  case atStart => exact ⟨w5, #[], ⟨rfl, rfl, rfl⟩, rfl, by simp⟩
  case round =>
    obtain ⟨v1, seen, hal, rfl, hno⟩ := hrel
    have hsz : v1.heap.size = bm + 1 := by rw [hal.1, h5]
    have hb1 : v1.heap[bm]? = some (.map (senEs A 8) 8) := by rw [hal.1]; exact hb5
    have law := run_next_map (P := Tryz.prog) v1 0 bm 8 8 seen (senEs A 8) 8 hb1 (fun x hx => by obtain ⟨i, hi, rfl⟩ := senEs_mem hx; exact hi) (Nat.le_refl _)
    rw [hsz] at law
    rcases law with ⟨h0, hrun⟩ | ⟨e, he, v2, hal2, hrun⟩
    · exfalso
      have hin : senE A j ∈ (senEs A 8).toList := by simp [senEs]; exact ⟨j, hj, rfl⟩
      have := all_seen (senEs A 8) seen h0 _ hin
      have h2 : seen.contains j = true := this
      rw [hno] at h2
      cases h2
    · obtain ⟨i, hi, rfl⟩ := senEs_mem (mem_left he).1
      have hrun' : ∀ ty, (Instr.next (.pointer (some ⟨bm + 1, 0, none⟩)) false ty).run Tryz.prog (v1.alloc (.mapIter (some bm) 8 seen 8)) = .ok (.tuple #[.bool true, .int .i64 (senNo i), .iface 342 (.pointer (some (A i)))]) (v2.alloc (.mapIter (some bm) 8 (seen.push i) 8)) := fun _ => hrun
      have hsz2 : v2.heap.size = bm + 1 := by rw [hal2.1, hal.1, h5]
      have hb2 : v2.heap[bm]? = some (.map (senEs A 8) 8) := by rw [hal2.1]; exact hb1
      have hen0 := run_entry_map (P := Tryz.prog) v2 bm 8 seen (senEs A 8) 8 (senE A i) hb2 (mem_left he).1 (senEs_nodup A 8)
      rw [hsz2] at hen0
      have hen : (Instr.entry (.pointer (some ⟨bm + 1, 0, none⟩))).run Tryz.prog (v2.alloc (.mapIter (some bm) 8 (seen.push i) 8)) = .ok (.tuple #[.int .i64 (senNo i), .iface 342 (.pointer (some (A i)))]) (v2.alloc (.mapIter (some bm) 8 (seen.push i) 8)) := hen0
      clear hen0 hrun
      have hal3 : v2.Alike w5 := ⟨hal2.1.trans hal.1, hal2.2.1.trans hal.2.1, hal2.2.2.trans hal.2.2⟩
      have hK6 : Kept w5 (v2.alloc (.mapIter (some bm) 8 (seen.push i) 8)) := (Kept.alike hal3).trans (Kept.below ((Below.refl _ _).alloc (by simp) _))
      have hG6 := hG5.kept hK6
      have hr6 := hK6.blk hr5
      have d0 : (v2.alloc (.mapIter (some bm) 8 (seen.push i) 8)).cell? ⟨w.heap.size, 0, none⟩ = some (.int .i64 0) := by simp only [World.cell?, hr6]; rfl
      have d1 : (v2.alloc (.mapIter (some bm) 8 (seen.push i) 8)).cell? ⟨w.heap.size, 1, none⟩ = some (.int .i64 0) := by simp only [World.cell?, hr6]; rfl
      have d2 : (v2.alloc (.mapIter (some bm) 8 (seen.push i) 8)).cell? ⟨w.heap.size, 2, none⟩ = some (.string { data := #[] }) := by simp only [World.cell?, hr6]; rfl
      have d3 : (v2.alloc (.mapIter (some bm) 8 (seen.push i) 8)).cell? ⟨w.heap.size, 3, none⟩ = some (.int .i64 0) := by simp only [World.cell?, hr6]; rfl
      have d4 : (v2.alloc (.mapIter (some bm) 8 (seen.push i) 8)).cell? ⟨w.heap.size, 4, none⟩ = some (.int .i64 0) := by simp only [World.cell?, hr6]; rfl
      have fz : ∀ q, (v2.alloc (.mapIter (some bm) 8 (seen.push i) 8)).frozen? ⟨w.heap.size, q, none⟩ = false := fun q => by simp only [World.frozen?, hr6]; rfl
      by_cases hij : j = i
      · subst hij
        have hd : decide (j = j) = true := by simp
        go_wp2_with (go_at_call 40; refine (hG6.is j j hj hi).mono ?_; rintro e w' ⟨rfl, hww⟩; rw [hww, hd]; clear hww w')
        generalize v2.alloc (.mapIter (some bm) 8 (seen.push j) 8) = w6 at *
        change bodyPost _ _ _ _ _ (fltSet w6 w.heap.size (.int .i64 (senNo j)) (.int .i64 0) (.string { data := #[] }) (.int .i64 0) (.int .i64 0))
        have hr7 := fltSet_blk hr6 (.int .i64 (senNo j)) (.int .i64 0) (.string { data := #[] }) (.int .i64 0) (.int .i64 0)
        have hK7 : Kept w (fltSet w6 w.heap.size (.int .i64 (senNo j)) (.int .i64 0) (.string { data := #[] }) (.int .i64 0) (.int .i64 0)) := by
          have h1 := hKw.trans hK6
          have h2 := fltSet_below (Below.refl w.heap.size w6) (Nat.le_refl _) (.int .i64 (senNo j)) (.int .i64 0) (.string { data := #[] }) (.int .i64 0) (.int .i64 0)
          exact ⟨h2.os.trans h1.os, h2.output.trans h1.output, Nat.le_trans h1.size h2.size, fun q hq => (h2.block q hq).trans (h1.block q hq)⟩
        generalize fltSet w6 w.heap.size (.int .i64 (senNo j)) (.int .i64 0) (.string { data := #[] }) (.int .i64 0) (.int .i64 0) = w7 at *
        clear d0 d1 d2 d3 d4
        have d0 : w7.cell? ⟨w.heap.size, 0, none⟩ = some (.int .i64 (senNo j)) := by simp [World.cell?, hr7]
        have d1 : w7.cell? ⟨w.heap.size, 1, none⟩ = some (.int .i64 0) := by simp [World.cell?, hr7]
        have d2 : w7.cell? ⟨w.heap.size, 2, none⟩ = some (.string { data := #[] }) := by simp [World.cell?, hr7]
        have d3 : w7.cell? ⟨w.heap.size, 3, none⟩ = some (.int .i64 0) := by simp [World.cell?, hr7]
        have d4 : w7.cell? ⟨w.heap.size, 4, none⟩ = some (.int .i64 0) := by simp [World.cell?, hr7]
        exact bodyPost_ret (v := faultVal (senNo j) 0 { data := #[] }) (by simp [results, Tryz.results22, go_sem, faultVal, d0, d1, d2, d3, d4]) rfl ⟨rfl, hK7⟩
      · have hd : decide (j = i) = false := by simp [hij]
        go_wp2_with (go_at_call 40; refine (hG6.is j i hj hi).mono ?_; rintro e w' ⟨rfl, hww⟩; rw [hww, hd]; clear hww w')
        go_roundw
        case rel => exact ⟨v2, seen.push i, hal3, rfl, by rw [contains_push, hno]; simp [hij]⟩
        case measure =>
          rw [← hsz2, World.iterSeen_alloc, hsz2, ← hsz, World.iterSeen_alloc]
          exact left_shrinks (senEs A 8) seen (senE A i) he
end Go.Proofs.YtleenphlgbklmabGreatDoor

namespace Go.Proofs.YtleenphlgbklmabGreatDoor
open Go.RowKit

theorem PRd.c {w : World} {rb : Nat} {s : ByteArray} {kd i : Nat} {x : ByteArray} (h : PRd w rb s kd i x) : w.cell? ⟨rb, 0, none⟩ = some (.string s) ∧ w.cell? ⟨rb, 1, none⟩ = some (.int .i64 kd) ∧ w.cell? ⟨rb, 2, none⟩ = some (.int .i64 i) ∧ w.cell? ⟨rb, 3, none⟩ = some (.string x) := by
  have hh : w.heap[rb]? = some (.cells #[.string s, .int .i64 kd, .int .i64 i, .string x] 191 (0, 0)) := h
  refine ⟨?_, ?_, ?_, ?_⟩ <;> simp [World.cell?, hh]
/-- thrown: a fault at that place. -/
def ThrS (w : World) (loc : Nat) (e : Ending) (w' : World) : Prop := ∃ b, e = thrown (.iface 83 (.pointer (some ⟨b, 0, none⟩))) ∧ w'.heap[b]? = some (.cells #[.int .i64 loc] 94 (0, 0)) ∧ w.heap.size ≤ b ∧ Kept w w'

theorem pis_any (w : World) (rb : Nat) (s x t : ByteArray) (kd i : Nat) (h : PRd w rb s kd i x) :
    Calls Tryz.prog 80 #[.pointer (some ⟨rb, 0, none⟩), .string t] w fun e w' => e = .returned (.bool (x.toList == t.toList)) ∧ w' = w := by
  obtain ⟨c0, c1, c2, c3⟩ := h.c
  generalize hr : (x.toList == t.toList) = r
  go_enter Tryz.func80, Tryz.ntmps80
  go_wp2
  go_ret
  exact ⟨rfl, rfl⟩
theorem prr_any (w : World) (rb : Nat) (s x : ByteArray) (kd i : Nat) (h : PRd w rb s kd i x) :
    Calls Tryz.prog 81 #[.pointer (some ⟨rb, 0, none⟩)] w fun e w' => ThrS w i e w' := by
  obtain ⟨c0, c1, c2, c3⟩ := h.c
  clear h
  go_enter Tryz.func81, Tryz.ntmps81
  go_wp2_with (go_at_call 54; refine Calls.mono (prefuse_syn _ _) ?_; rintro e w' ⟨he, hww⟩; rw [hww, he]; clear hww he w' e)
  exact ⟨rfl, _, rfl, heap_alloc_new _ _, Nat.le_refl _, Kept.below ((Below.refl _ _).alloc (by simp) _)⟩
theorem pexpend_any (w : World) (rb : Nat) (s x : ByteArray) (kd i : Nat) (h : PRd w rb s kd i x) (hk : kd = 0) :
    Calls Tryz.prog 52 #[.pointer (some ⟨rb, 0, none⟩)] w fun e w' => e = .returned (.tuple #[]) ∧ w' = w := by
  obtain ⟨c0, c1, c2, c3⟩ := h.c
  subst hk
  clear h
  go_enter Tryz.func52, Tryz.ntmps52
  go_wp2
  go_end0
  exact ⟨rfl, rfl⟩
theorem pexpend_bad (w : World) (rb : Nat) (s x : ByteArray) (kd i : Nat) (h : PRd w rb s kd i x) (hk : kd ≠ 0) :
    Calls Tryz.prog 52 #[.pointer (some ⟨rb, 0, none⟩)] w fun e w' => ThrS w i e w' := by
  have HR : Hid _ := prr_any w rb s x kd i h
  obtain ⟨c0, c1, c2, c3⟩ := h.c
  have hz : ((kd : Int) == 0) = false := by simp; omega
  clear h
  go_enter Tryz.func52, Tryz.ntmps52
  go_wp2_with (go_at_call 81; refine Calls.mono HR.out ?_; rintro e w' ⟨b, he, hb1, hb2, hB⟩; rw [he]; clear he e)
  exact ⟨rfl, b, rfl, hb1, hb2, hB⟩
theorem pexpect_bad (w : World) (rb : Nat) (s x t : ByteArray) (kd i : Nat) (h : PRd w rb s kd i x) (hk : (x.toList == t.toList) = false) :
    Calls Tryz.prog 148 #[.pointer (some ⟨rb, 0, none⟩), .string t] w fun e w' => ThrS w i e w' := by
  have HR : Hid _ := prr_any w rb s x kd i h
  have HI : Hid _ := pis_any w rb s x t kd i h
  rw [hk] at HI
  clear h hk
  go_enter Tryz.func148, Tryz.ntmps148
  go_wp2_with (first | (go_at_call 80; refine Calls.mono HI.out ?_; rintro e w' ⟨rfl, hww⟩; rw [hww]; clear hww w') | (go_at_call 81; refine Calls.mono HR.out ?_; rintro e w' ⟨b, he, hb1, hb2, hB⟩; rw [he]; clear he e))
  exact ⟨rfl, b, rfl, hb1, hb2, hB⟩
theorem pexpect_some (w : World) (rb : Nat) (s x t : ByteArray) (kd i : Nat) (h : PRd w rb s kd i x) (hk : (x.toList == t.toList) = true) (hs : s.size ≤ 300) (hi : i + x.size ≤ s.size) (kd' : Nat) (y : ByteArray) (k' : Nat) (hT : pTok s (run blI s (i + x.size)) = some (kd', y, k')) :
    Calls Tryz.prog 148 #[.pointer (some ⟨rb, 0, none⟩), .string t] w fun e w' => e = .returned (.tuple #[]) ∧ Kp (· = rb) w w' ∧ PRd w' rb s kd' (run blI s (i + x.size)) y := by
  have HA : Hid _ := padv_some w rb s x kd i h hs hi kd' y k' hT
  have HI : Hid _ := pis_any w rb s x t kd i h
  rw [hk] at HI
  clear h hk hT
  go_enter Tryz.func148, Tryz.ntmps148
  go_wp2_with (first | (go_at_call 80; refine Calls.mono HI.out ?_; rintro e w' ⟨rfl, hww⟩; rw [hww]; clear hww w') | (go_at_call 78; refine Calls.mono HA.out ?_; rintro e w' ⟨rfl, hK, hP⟩))
  go_end0
  exact ⟨rfl, hK, hP⟩
theorem pexpect_none (w : World) (rb : Nat) (s x t : ByteArray) (kd i : Nat) (h : PRd w rb s kd i x) (hk : (x.toList == t.toList) = true) (hs : s.size ≤ 300) (hi : i + x.size ≤ s.size) (hT : pTok s (run blI s (i + x.size)) = none) :
    Calls Tryz.prog 148 #[.pointer (some ⟨rb, 0, none⟩), .string t] w fun e w' => ThrS w (run blI s (i + x.size)) e w' := by
  have HA : Hid _ := padv_none w rb s x kd i h hs hi hT
  have HI : Hid _ := pis_any w rb s x t kd i h
  rw [hk] at HI
  clear h hk hT
  generalize run blI s (i + x.size) = k0 at *
  go_enter Tryz.func148, Tryz.ntmps148
  go_wp2_with (first | (go_at_call 80; refine Calls.mono HI.out ?_; rintro e w' ⟨rfl, hww⟩; rw [hww]; clear hww w') | (go_at_call 78; refine Calls.mono HA.out ?_; rintro e w' ⟨b, he, hb1, hb2, hB⟩; rw [he]; clear he e))
  exact ⟨rfl, b, rfl, hb1, hb2, Kept.below hB⟩

theorem pnew_long {A : Nat → Addr} (s : ByteArray) (w : World) (hG : Glb A w) (h : 300 < s.size) (hm : s.size ≤ 9223372036854775807) :
    Calls Tryz.prog 50 #[.string s] w fun e w' => e = thrown (.iface 342 (.pointer (some (A 0)))) ∧ Kept w w' := by
  have c0 := hG.c0
  clear hG
  go_enter Tryz.func50, Tryz.ntmps50
  go_wp2_with (go_at_call 54; refine Calls.mono (prefuse_es _ _) ?_; rintro e w' ⟨he, hww⟩; rw [hww, he]; clear hww he w' e)
  exact ⟨rfl, rfl, Kept.refl _⟩
set_option maxHeartbeats 1000000 in
theorem pnew_some (s : ByteArray) (w : World) (hs : s.size ≤ 300) (kd' : Nat) (y : ByteArray) (k' : Nat) (hT : pTok s (run blI s 0) = some (kd', y, k')) :
    Calls Tryz.prog 50 #[.string s] w fun e w' => e = .returned (.pointer (some ⟨w.heap.size, 0, none⟩)) ∧ Kept w w' ∧ PRd w' w.heap.size s kd' (run blI s 0) y := by
  have h : PRd (w.alloc (.cells #[.string s, .int .i64 ((0 : Nat) : Int), .int .i64 ((0 : Nat) : Int), .string { data := #[] }] 191)) w.heap.size s 0 0 { data := #[] } := heap_alloc_new _ _
  have HA : Hid _ := padv_some _ w.heap.size s { data := #[] } 0 0 h hs (by simp; show 0 ≤ _; omega) kd' y k' hT
  clear h hT
  go_enter Tryz.func50, Tryz.ntmps50
  go_wp2_with fail
  refine Calls.mono HA.out ?_
  rintro e w2 ⟨rfl, hK, hP⟩
  have hKK : Kept w w2 := ⟨hK.os, hK.output, by have := hK.size; simp at this; omega, fun q hq => by
    rw [hK.block q (by simp; omega) (by show ¬ q = _; omega)]
    exact Below.heap_alloc _ _ _ hq⟩
  clear hK HA
  go_wp2
  go_ret
  exact ⟨rfl, hKK, hP⟩
set_option maxHeartbeats 1000000 in
theorem pnew_none (s : ByteArray) (w : World) (hs : s.size ≤ 300) (hT : pTok s (run blI s 0) = none) :
    Calls Tryz.prog 50 #[.string s] w fun e w' => ThrS w (run blI s 0) e w' := by
  have h : PRd (w.alloc (.cells #[.string s, .int .i64 ((0 : Nat) : Int), .int .i64 ((0 : Nat) : Int), .string { data := #[] }] 191)) w.heap.size s 0 0 { data := #[] } := heap_alloc_new _ _
  have HA : Hid _ := padv_none _ w.heap.size s { data := #[] } 0 0 h hs (by simp; show 0 ≤ _; omega) hT
  clear h hT
  go_enter Tryz.func50, Tryz.ntmps50
  go_wp2_with fail
  refine Calls.mono HA.out ?_
  rintro e w2 ⟨b, he, hb1, hb2, hB⟩
  rw [he]
  clear he HA
  go_wp2
  refine ⟨rfl, b, rfl, hb1, by simp at hb2; omega, ?_⟩
  exact Kept.trans (Kept.below ((Below.refl _ _).alloc (by simp) _)) (Kept.below hB)
end Go.Proofs.YtleenphlgbklmabGreatDoor
