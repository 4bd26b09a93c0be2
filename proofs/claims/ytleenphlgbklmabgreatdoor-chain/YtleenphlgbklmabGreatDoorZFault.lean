import Derived.Test.YtleenphlgbklmabGreatDoorZPTokAt
import Derived.Test.YtleenphlgbklmabGreatDoorZTree
import Derived.Test.YtleenphlgbklmabGreatDoorZWDeep
import Derived.Test.YtleenphlgbklmabGreatDoorZTGood
import Derived.Laws.IdiomRangeMap
import Derived.Test.YtleenphlgbklmabGreatDoorZAsZ
import Derived.Test.YtleenphlgbklmabGreatDoorZIsZ
set_option linter.unusedVariables false
set_option linter.unusedSimpArgs false
namespace Go.Proofs.YtleenphlgbklmabGreatDoor
open Go.RowKit

theorem ptok_some (s : ByteArray) (i : Nat) (hs : s.size ≤ 300) (hi : i ≤ s.size) (kd : Nat) (x : ByteArray) (k : Nat) (h : pTok s i = some (kd, x, k)) (w : World) :
    Calls Tryz.prog 120 #[.string s, .int .i64 i] w fun e w' => e = .returned (.agg #[.int .i64 kd, .int .i64 i, .string x]) ∧ Below w.heap.size w w' := by
  unfold pTok at h
  split at h
  · rename_i hlt
    split at h
    · rename_i hl
      split at h
      · rename_i h8
        simp only [Option.some.injEq, Prod.mk.injEq] at h
        obtain ⟨rfl, rfl, rfl⟩ := h
        have hge := run_ge lfI s i
        have e : run lfI s i = i + (run lfI s i - i) := by omega
        have := ptok_word s i (run lfI s i - i) hs hlt hl e h8 w
        rw [← e] at this
        exact this
      · cases h
    · rename_i hl
      have hl' : lowI (chr s i) = false := by simpa using hl
      split at h
      · rename_i hf
        split at h
        · rename_i h8
          simp only [Option.some.injEq, Prod.mk.injEq] at h
          obtain ⟨rfl, rfl, rfl⟩ := h
          have hge := run_ge figI s i
          have e : run figI s i = i + (run figI s i - i) := by omega
          have := ptok_num s i (run figI s i - i) hs hlt hl' hf e h8 w
          rw [← e] at this
          exact this
        · cases h
      · rename_i hf
        have hf' : figI (chr s i) = false := by simpa using hf
        split at h
        · rename_i ha
          simp only [Option.some.injEq, Prod.mk.injEq] at h
          obtain ⟨rfl, rfl, rfl⟩ := h
          exact ptok_sign s i 2 hs hlt hl' hf' (by rw [if_pos ⟨ha.1, by omega, ha.2.2⟩]; rfl) (by omega) (by omega) (by omega) w
        · rename_i ha
          split at h
          · rename_i hsg
            simp only [Option.some.injEq, Prod.mk.injEq] at h
            obtain ⟨rfl, rfl, rfl⟩ := h
            exact ptok_sign s i 1 hs hlt hl' hf' (by rw [if_neg (fun q => ha ⟨q.1, by omega, q.2.2⟩), if_pos hsg]; rfl) (by omega) (by omega) (by omega) w
          · cases h
  · rename_i hlt
    simp only [Option.some.injEq, Prod.mk.injEq] at h
    obtain ⟨rfl, rfl, rfl⟩ := h
    exact ptok_end s i hs (by omega) w
theorem ptok_none (s : ByteArray) (i : Nat) (hs : s.size ≤ 300) (h : pTok s i = none) (w : World) :
    Calls Tryz.prog 120 #[.string s, .int .i64 i] w fun e w' => ∃ b, e = thrown (.iface 83 (.pointer (some ⟨b, 0, none⟩))) ∧ w'.heap[b]? = some (.cells #[.int .i64 i] 94 (0, 0)) ∧ w.heap.size ≤ b ∧ Below w.heap.size w w' := by
  unfold pTok at h
  split at h
  · rename_i hlt
    split at h
    · rename_i hl
      split at h
      · cases h
      · rename_i h8
        have hge := run_ge lfI s i
        exact ptok_word_bad s i (run lfI s i - i) hs hlt hl (by omega) (by omega) w
    · rename_i hl
      have hl' : lowI (chr s i) = false := by simpa using hl
      split at h
      · rename_i hf
        split at h
        · cases h
        · rename_i h8
          have hge := run_ge figI s i
          exact ptok_num_bad s i (run figI s i - i) hs hlt hl' hf (by omega) (by omega) w
      · rename_i hf
        have hf' : figI (chr s i) = false := by simpa using hf
        split at h
        · cases h
        · rename_i ha
          split at h
          · cases h
          · rename_i hsg
            exact ptok_sign_bad s i 0 hs hlt hl' hf' (by rw [if_neg (fun q => ha ⟨q.1, by omega, q.2.2⟩), if_neg hsg]; rfl) rfl w
  · cases h
/-- the program's reader. -/
def PRd (w : World) (rb : Nat) (s : ByteArray) (kd i : Nat) (x : ByteArray) : Prop := w.heap[rb]? = some (.cells #[.string s, .int .i64 kd, .int .i64 i, .string x] 191 (0, 0))
theorem PRd.set {w : World} {rb : Nat} {s : ByteArray} {kd i : Nat} {x : ByteArray} (h : PRd w rb s kd i x) (kd' i' : Nat) (x' : ByteArray) : PRd (((w.setCell ⟨rb, 1, none⟩ (.int .i64 kd')).setCell ⟨rb, 2, none⟩ (.int .i64 i')).setCell ⟨rb, 3, none⟩ (.string x')) rb s kd' i' x' := by
  have h : w.heap[rb]? = some (.cells #[.string s, .int .i64 kd, .int .i64 i, .string x] 191 (0, 0)) := h
  simp [PRd, World.setCell, h, Array.getElem?_modify]

set_option maxHeartbeats 2000000 in
theorem padv_some (w : World) (rb : Nat) (s x : ByteArray) (kd i : Nat) (h : PRd w rb s kd i x) (hs : s.size ≤ 300) (hi : i + x.size ≤ s.size) (kd' : Nat) (y : ByteArray) (k' : Nat) (hT : pTok s (run blI s (i + x.size)) = some (kd', y, k')) :
    Calls Tryz.prog 78 #[.pointer (some ⟨rb, 0, none⟩)] w fun e w' => e = .returned (.tuple #[]) ∧ Kp (· = rb) w w' ∧ PRd w' rb s kd' (run blI s (i + x.size)) y := by
  have hh : w.heap[rb]? = some (.cells #[.string s, .int .i64 kd, .int .i64 i, .string x] 191 (0, 0)) := h
  have c0 : w.cell? ⟨rb, 0, none⟩ = some (.string s) := by simp [World.cell?, hh]
  have c1 : w.cell? ⟨rb, 1, none⟩ = some (.int .i64 kd) := by simp [World.cell?, hh]
  have c2 : w.cell? ⟨rb, 2, none⟩ = some (.int .i64 i) := by simp [World.cell?, hh]
  have c3 : w.cell? ⟨rb, 3, none⟩ = some (.string x) := by simp [World.cell?, hh]
  have hrun := run_rest blI s (i + x.size) hi
  have hle := run_le blI s (i + x.size) hi
  have HD : Hid (∀ w, Calls Tryz.prog 118 #[.string (s.extract (i + x.size) s.size), .func (Fn.func 119) #[] #[]] w fun e w' => e = .returned (.int .i64 (run blI (s.extract (i + x.size) s.size) 0 : Nat)) ∧ w' = w) := fun w => lead_blank _ (by simp [ByteArray.size_extract]; omega) w
  have HT : Hid (∀ w, Calls Tryz.prog 120 #[.string s, .int .i64 (run blI s (i + x.size) : Nat)] w fun e w' => e = .returned (.agg #[.int .i64 kd', .int .i64 (run blI s (i + x.size) : Nat), .string y]) ∧ Below w.heap.size w w') := fun w => ptok_some s _ hs hle kd' y k' hT w
  generalize run blI s (i + x.size) = k0 at *
  generalize run blI (s.extract (i + x.size) s.size) 0 = n at *
  have hk0 : (k0 : Int) = (i : Int) + (x.size : Int) + (n : Int) := by omega
  have HT2 : Hid (∀ w, Calls Tryz.prog 120 #[.string s, .int .i64 ((i : Int) + (x.size : Int) + (n : Int))] w fun e w' => e = .returned (.agg #[.int .i64 kd', .int .i64 k0, .string y]) ∧ Below w.heap.size w w') := fun w => by rw [← hk0]; exact HT.out w
  clear hT hk0 HT
  go_enter Tryz.func78, Tryz.ntmps78
  go_wp2_with fail
  go_quiet (fail)
  go_wp2_with fail
  refine Calls.mono (HD.out _) ?_
  rintro e w1 ⟨rfl, rfl⟩
  go_wp2_with fail
  refine Calls.mono (HT2.out _) ?_
  rintro e w2 ⟨rfl, hB2⟩
  have hB : Below w.heap.size w w2 := ⟨hB2.os, hB2.tape, hB2.output, hB2.size, hB2.block⟩
  have h2 : PRd w2 rb s kd i x := (hB.block rb (lt_of_block hh)).trans hh
  have hh2 : w2.heap[rb]? = some (.cells #[.string s, .int .i64 kd, .int .i64 i, .string x] 191 (0, 0)) := h2
  have e1 : w2.cell? ⟨rb, 1, none⟩ = some (.int .i64 kd) := by simp [World.cell?, hh2]
  have e2 : w2.cell? ⟨rb, 2, none⟩ = some (.int .i64 i) := by simp [World.cell?, hh2]
  have e3 : w2.cell? ⟨rb, 3, none⟩ = some (.string x) := by simp [World.cell?, hh2]
  have fz : ∀ q, w2.frozen? ⟨rb, q, none⟩ = false := fun q => by simp [World.frozen?, hh2]
  have hF := h2.set kd' k0 y
  have hK : Kp (· = rb) w (((w2.setCell ⟨rb, 1, none⟩ (.int .i64 kd')).setCell ⟨rb, 2, none⟩ (.int .i64 k0)).setCell ⟨rb, 3, none⟩ (.string y)) :=
    ((Kp.setCell (Kp.setCell (Kp.setCell (S := (· = rb)) ⟨hB.os, hB.tape, hB.output, hB.size, fun q hq _ => hB.block q hq⟩ _ _ (fun _ => rfl)) _ _ (fun _ => rfl)) _ _ (fun _ => rfl)))
  clear hB2 hB h2 hh2 c0 c1 c2 c3 hh h
  go_wp2
  go_end0
  exact ⟨rfl, hK, hF⟩

set_option maxHeartbeats 2000000 in
theorem padv_none (w : World) (rb : Nat) (s x : ByteArray) (kd i : Nat) (h : PRd w rb s kd i x) (hs : s.size ≤ 300) (hi : i + x.size ≤ s.size) (hT : pTok s (run blI s (i + x.size)) = none) :
    Calls Tryz.prog 78 #[.pointer (some ⟨rb, 0, none⟩)] w fun e w' => ∃ b, e = thrown (.iface 83 (.pointer (some ⟨b, 0, none⟩))) ∧ w'.heap[b]? = some (.cells #[.int .i64 (run blI s (i + x.size) : Nat)] 94 (0, 0)) ∧ w.heap.size ≤ b ∧ Below w.heap.size w w' := by
  have hh : w.heap[rb]? = some (.cells #[.string s, .int .i64 kd, .int .i64 i, .string x] 191 (0, 0)) := h
  have c0 : w.cell? ⟨rb, 0, none⟩ = some (.string s) := by simp [World.cell?, hh]
  have c1 : w.cell? ⟨rb, 1, none⟩ = some (.int .i64 kd) := by simp [World.cell?, hh]
  have c2 : w.cell? ⟨rb, 2, none⟩ = some (.int .i64 i) := by simp [World.cell?, hh]
  have c3 : w.cell? ⟨rb, 3, none⟩ = some (.string x) := by simp [World.cell?, hh]
  have hrun := run_rest blI s (i + x.size) hi
  have hle := run_le blI s (i + x.size) hi
  have HD : Hid (∀ w, Calls Tryz.prog 118 #[.string (s.extract (i + x.size) s.size), .func (Fn.func 119) #[] #[]] w fun e w' => e = .returned (.int .i64 (run blI (s.extract (i + x.size) s.size) 0 : Nat)) ∧ w' = w) := fun w => lead_blank _ (by simp [ByteArray.size_extract]; omega) w
  have HT : Hid (∀ w, Calls Tryz.prog 120 #[.string s, .int .i64 (run blI s (i + x.size) : Nat)] w fun e w' => ∃ b, e = thrown (.iface 83 (.pointer (some ⟨b, 0, none⟩))) ∧ w'.heap[b]? = some (.cells #[.int .i64 (run blI s (i + x.size) : Nat)] 94 (0, 0)) ∧ w.heap.size ≤ b ∧ Below w.heap.size w w') := fun w => ptok_none s _ hs hT w
  generalize run blI s (i + x.size) = k0 at *
  generalize run blI (s.extract (i + x.size) s.size) 0 = n at *
  have hk0 : (k0 : Int) = (i : Int) + (x.size : Int) + (n : Int) := by omega
  have HT2 : Hid (∀ w, Calls Tryz.prog 120 #[.string s, .int .i64 ((i : Int) + (x.size : Int) + (n : Int))] w fun e w' => ∃ b, e = thrown (.iface 83 (.pointer (some ⟨b, 0, none⟩))) ∧ w'.heap[b]? = some (.cells #[.int .i64 k0] 94 (0, 0)) ∧ w.heap.size ≤ b ∧ Below w.heap.size w w') := fun w => by rw [← hk0]; exact HT.out w
  clear hT hk0 HT
  go_enter Tryz.func78, Tryz.ntmps78
  go_wp2_with fail
  go_quiet (fail)
  go_wp2_with fail
  refine Calls.mono (HD.out _) ?_
  rintro e w1 ⟨rfl, rfl⟩
  go_wp2_with fail
  refine Calls.mono (HT2.out _) ?_
  rintro e w2 ⟨b, he, hb1, hb2, hB2⟩
  have hB : Below w.heap.size w w2 := ⟨hB2.os, hB2.tape, hB2.output, hB2.size, hB2.block⟩
  rw [he]
  clear he hB2
  go_wp2
  exact ⟨rfl, b, rfl, hb1, hb2, hB⟩
end Go.Proofs.YtleenphlgbklmabGreatDoor

namespace Go.Proofs.YtleenphlgbklmabGreatDoor

def kwIn (kws : List ByteArray) (x : ByteArray) : Bool := kws.any (fun w => sameS x w)
theorem kwFold_in (x : ByteArray) (kws : List ByteArray) (hk : ∀ w, w ∈ kws → w ≠ { data := #[110, 97, 109, 101] }) : kws.foldl (kwStep x) { data := #[110, 97, 109, 101] } = if kwIn kws x then x else { data := #[110, 97, 109, 101] } := by
  induction kws with
  | nil => rfl
  | cons w kws ih =>
    rw [List.foldl_cons]
    have hw := hk w (by simp)
    have ih := ih (fun v hv => hk v (by simp [hv]))
    by_cases e : sameS x w = true
    · have ex := (sameS_iff x w).1 e
      subst ex
      have h1 : kwStep x { data := #[110, 97, 109, 101] } x = x := by unfold kwStep; rw [if_pos (by simp)]
      rw [h1, kwFold_not x x kws (by
        rw [Bool.eq_false_iff]
        intro q
        exact hw ((sameS_iff x { data := #[110, 97, 109, 101] }).1 q))]
      simp [kwIn, e]
    · have h1 : kwStep x { data := #[110, 97, 109, 101] } w = { data := #[110, 97, 109, 101] } := by
        unfold kwStep
        rw [if_neg]
        intro q
        simp only [Bool.and_eq_true] at q
        exact e q.2
      rw [h1, ih]
      have e' : sameS x w = false := by simpa using e
      simp [kwIn, e']

theorem sign_one (s : ByteArray) (i : Nat) (h : i < s.size) : s.extract i (i + 1) = ⟨#[s[i]]⟩ := by
  apply ByteArray.ext
  rw [ByteArray.data_extract]
  apply Array.ext
  · simp; omega
  · intro j h1 h2
    have : j = 0 := by simp at h2; omega
    subst this
    simp
    rfl
theorem arr_two (s : ByteArray) (i : Nat) (h : chr s i = 45 ∧ i + 1 < s.size ∧ chr s (i + 1) = 62) : s.extract i (i + 2) = { data := #[45, 62] } := by
  obtain ⟨h1, h2, h3⟩ := h
  have c1 := chr_eq s i (by omega)
  have c2 := chr_eq s (i + 1) h2
  rw [h1] at c1
  rw [h3] at c2
  have e1 : s[i] = 45 := UInt8.toNat_inj.1 (by have : ((45 : UInt8).toNat) = 45 := rfl; omega)
  have e2 : s[i + 1] = 62 := UInt8.toNat_inj.1 (by have : ((62 : UInt8).toNat) = 62 := rfl; omega)
  apply ByteArray.ext
  rw [ByteArray.data_extract]
  apply Array.ext
  · simp; omega
  · intro j h1 h2
    have : j = 0 ∨ j = 1 := by simp at h2; omega
    rcases this with rfl | rfl
    · simp; exact e1
    · simp; exact e2

/-- the document's token and the program's, at one place. -/
inductive Link (s : ByteArray) (kws : List ByteArray) (i : Nat) (t : Tk) (k : Nat) : Prop
  | fin : i = s.size → t.is = { data := #[101, 110, 100] } → t.s = { data := #[] } → pTok s i = some (0, { data := #[] }, i) → k = i → Link s kws i t k
  | bad : t.is = { data := #[110, 111, 110, 101] } → pTok s i = none → Link s kws i t k
  | word : i < s.size → lowI (chr s i) = true → pTok s i = some (1, t.s, k) → t.is = (if kwIn kws t.s then t.s else { data := #[110, 97, 109, 101] }) → Link s kws i t k
  | num : i < s.size → lowI (chr s i) = false → figI (chr s i) = true → pTok s i = some (2, t.s, k) → t.is = { data := #[110, 117, 109] } → Link s kws i t k
  | sign : i < s.size → lowI (chr s i) = false → figI (chr s i) = false → pTok s i = some (3, t.s, k) → t.is = t.s → (t.s = { data := #[45, 62] } ∨ ∃ (h : i < s.size), t.s = ⟨#[s[i]]⟩ ∧ isSign (chr s i) = true) → Link s kws i t k

theorem tok_link (s : ByteArray) (kws : List ByteArray) (hk : ∀ w, w ∈ kws → w ≠ { data := #[110, 97, 109, 101] }) (i : Nat) (hi : i ≤ s.size) : Link s kws i (tok1 s kws i).1 (tok1 s kws i).2 := by
  by_cases h0 : i < s.size
  · by_cases h1 : lowI (chr s i) = true
    · have eI : clsI s i = { data := #[110, 97, 109, 101] } := by rw [clsI, if_pos h0, if_pos h1]
      have eK : clsK s i = run lfI s i := by rw [clsK, if_pos h0, if_pos h1]
      by_cases h8 : run lfI s i - i ≤ 8
      · refine .word h0 h1 ?_ ?_
        · simp only [pTok, if_pos h0, if_pos h1, if_pos h8, tok1, eK]
        · simp only [tok1, eI, eK]
          have : clsB { data := #[110, 97, 109, 101] } (run lfI s i - i) = { data := #[110, 97, 109, 101] } := by unfold clsB; rw [if_neg (by simp; intro _; omega)]
          rw [this]
          exact kwFold_in _ kws hk
      · refine .bad ?_ ?_
        · simp only [tok1, eI, eK]
          have : clsB { data := #[110, 97, 109, 101] } (run lfI s i - i) = { data := #[110, 111, 110, 101] } := by
            unfold clsB
            rw [if_pos (by
              have a : isNN { data := #[110, 97, 109, 101] } = true := by decide
              rw [a]; simp; omega)]
          rw [this]
          exact kwFold_not _ _ _ (by decide)
        · simp only [pTok, if_pos h0, if_pos h1, if_neg h8]
    · have h1' : lowI (chr s i) = false := by simpa using h1
      by_cases h2 : figI (chr s i) = true
      · have eI : clsI s i = { data := #[110, 117, 109] } := by rw [clsI, if_pos h0, if_neg h1, if_pos h2]
        have eK : clsK s i = run figI s i := by rw [clsK, if_pos h0, if_neg h1, if_pos h2]
        by_cases h8 : run figI s i - i ≤ 8
        · refine .num h0 h1' h2 ?_ ?_
          · simp only [pTok, if_pos h0, if_neg h1, if_pos h2, if_pos h8, tok1, eK]
          · simp only [tok1, eI, eK]
            have : clsB { data := #[110, 117, 109] } (run figI s i - i) = { data := #[110, 117, 109] } := by unfold clsB; rw [if_neg (by simp; intro _; omega)]
            rw [this]
            exact kwFold_not _ _ _ (by decide)
        · refine .bad ?_ ?_
          · simp only [tok1, eI, eK]
            have : clsB { data := #[110, 117, 109] } (run figI s i - i) = { data := #[110, 111, 110, 101] } := by
              unfold clsB
              rw [if_pos (by
                have a : isNN { data := #[110, 117, 109] } = true := by decide
                rw [a]; simp; omega)]
            rw [this]
            exact kwFold_not _ _ _ (by decide)
          · simp only [pTok, if_pos h0, if_neg h1, if_pos h2, if_neg h8]
      · have h2' : figI (chr s i) = false := by simpa using h2
        by_cases h3 : chr s i = 45 ∧ i + 1 < s.size ∧ chr s (i + 1) = 62
        · have eI : clsI s i = { data := #[45, 62] } := by rw [clsI, if_pos h0, if_neg h1, if_neg h2, if_pos h3]
          have eK : clsK s i = i + 2 := by rw [clsK, if_pos h0, if_neg h1, if_neg h2, if_pos h3]
          have ex := arr_two s i h3
          refine .sign h0 h1' h2' ?_ ?_ (.inl ?_)
          · simp only [pTok, if_pos h0, if_neg h1, if_neg h2, if_pos h3, tok1, eK]
          · simp only [tok1, eI, eK, ex]
            rw [clsB_not _ _ (by decide)]
            exact kwFold_not _ _ _ (by decide)
          · simp only [tok1, eK, ex]
        · by_cases h4 : isSign (chr s i) = true
          · have eI : clsI s i = s.extract i (i + 1) := by rw [clsI, if_pos h0, if_neg h1, if_neg h2, if_neg h3, if_pos h4]
            have eK : clsK s i = i + 1 := by rw [clsK, if_pos h0, if_neg h1, if_neg h2, if_neg h3, if_pos h4]
            have ex := sign_one s i h0
            have hne : ∀ w : ByteArray, w.size ≠ 1 → ((⟨#[s[i]]⟩ : ByteArray).data.toList == w.data.toList) = false := fun w hw => by
              rw [Bool.eq_false_iff]
              intro q
              have q := (sameS_iff _ w).1 q
              rw [← q] at hw
              exact hw rfl
            refine .sign h0 h1' h2' ?_ ?_ (.inr ⟨h0, ?_, h4⟩)
            · simp only [pTok, if_pos h0, if_neg h1, if_neg h2, if_neg h3, if_pos h4, tok1, eK]
            · simp only [tok1, eI, eK, ex]
              rw [clsB_not _ _ (by unfold isNN; rw [hne _ (by decide), hne _ (by decide)]; rfl)]
              exact kwFold_not _ _ _ (hne _ (by decide))
            · simp only [tok1, eK, ex]
          · have eI : clsI s i = { data := #[110, 111, 110, 101] } := by rw [clsI, if_pos h0, if_neg h1, if_neg h2, if_neg h3, if_neg h4]
            refine .bad ?_ ?_
            · simp only [tok1, eI]
              rw [clsB_not _ _ (by decide)]
              exact kwFold_not _ _ _ (by decide)
            · simp only [pTok, if_pos h0, if_neg h1, if_neg h2, if_neg h3, if_neg h4]
  · have hz : i = s.size := by omega
    have eI : clsI s i = { data := #[101, 110, 100] } := by rw [clsI, if_neg h0]
    have eK : clsK s i = i := by rw [clsK, if_neg h0]
    refine .fin hz ?_ ?_ ?_ ?_
    · simp only [tok1, eI]
      rw [clsB_not _ _ (by decide)]
      exact kwFold_not _ _ _ (by decide)
    · simp only [tok1, eK]
      rw [hz]
      exact ext_empty s
    · simp only [pTok, if_neg h0]
    · exact eK
end Go.Proofs.YtleenphlgbklmabGreatDoor

namespace Go.Proofs.YtleenphlgbklmabGreatDoor

/-- behind that token no blank stands. -/
def opn (t : ByteArray) : Bool := sameS t { data := #[] } || sameS t { data := #[40] }
/-- ahead of that token no blank stands. -/
def cls (t : ByteArray) : Bool := sameS t { data := #[41] } || sameS t { data := #[44] }
def pre (last : ByteArray) : ByteArray := if opn last then { data := #[] } else { data := #[32] }
def sep (last t : ByteArray) : ByteArray := if cls t then { data := #[] } else pre last
/-- what is written of tokens behind one; the last. -/
def em : ByteArray → List ByteArray → ByteArray
  | _, [] => { data := #[] }
  | l, t :: ts => sep l t ++ t ++ em t ts
/-- a word: a name or a number. -/
structure Wd (t : ByteArray) : Prop where
  o : opn t = false
  c : cls t = false
end Go.Proofs.YtleenphlgbklmabGreatDoor

namespace Go.Proofs.YtleenphlgbklmabGreatDoor
open Go.RowKit

/-- an expression of the program; P: of the blocks that it lies in. -/
inductive PX (w : World) (P : Nat → Prop) : X → Value → Prop
  | name (n : ByteArray) (loc b : Nat) : Wd n → P b → w.heap[b]? = some (.cells #[.int .i64 1, .string n, .int .i64 loc] 239 (0, 0)) → PX w P (.mk { data := #[110, 97, 109, 101] } [n] [] loc) (.iface 233 (.pointer (some ⟨b, 0, none⟩)))
  | num (n : ByteArray) (loc b : Nat) : Wd n → P b → w.heap[b]? = some (.cells #[.int .i64 1, .string n] 261 (0, 0)) → PX w P (.mk { data := #[110, 117, 109] } [n] [] loc) (.iface 259 (.pointer (some ⟨b, 0, none⟩)))
  | fn (n : ByteArray) (x : X) (loc b : Nat) (p : Value) : Wd n → P b → w.heap[b]? = some (.cells #[.int .i64 (dp x + 1 : Nat), .string n, p] 242 (0, 0)) → PX w P x p → PX w P (.mk { data := #[102, 117, 110] } [n] [x] loc) (.iface 240 (.pointer (some ⟨b, 0, none⟩)))
  | ite (x y z : X) (loc b : Nat) (p q r : Value) : P b → w.heap[b]? = some (.cells #[.int .i64 (max (dp x) (max (dp y) (dp z)) + 1 : Nat), p, q, r] 246 (0, 0)) → PX w P x p → PX w P y q → PX w P z r → PX w P (.mk { data := #[105, 102] } [] [x, y, z] loc) (.iface 244 (.pointer (some ⟨b, 0, none⟩)))
  | lt (n : ByteArray) (x y : X) (loc b : Nat) (p q : Value) : Wd n → P b → w.heap[b]? = some (.cells #[.int .i64 (max (dp x) (dp y) + 1 : Nat), .string n, p, q] 249 (0, 0)) → PX w P x p → PX w P y q → PX w P (.mk { data := #[108, 101, 116] } [n] [x, y] loc) (.iface 247 (.pointer (some ⟨b, 0, none⟩)))
  | app (x y : X) (loc b : Nat) (p q : Value) : P b → w.heap[b]? = some (.cells #[.int .i64 (max (dp x) (dp y) + 1 : Nat), p, q] 254 (0, 0)) → PX w P x p → PX w P y q → PX w P (.mk { data := #[97, 112, 112] } [] [x, y] loc) (.iface 252 (.pointer (some ⟨b, 0, none⟩)))
  | pair (x y : X) (loc b : Nat) (p q : Value) : P b → w.heap[b]? = some (.cells #[.int .i64 (max (dp x) (dp y) + 1 : Nat), p, q] 257 (0, 0)) → PX w P x p → PX w P y q → PX w P (.mk { data := #[112, 97, 105, 114] } [] [x, y] loc) (.iface 255 (.pointer (some ⟨b, 0, none⟩)))
  | rc (names : List ByteArray) (kids : List X) (y : X) (loc b : Nat) (nv vv q : Value) (ps : List Value) : names ≠ [] → (∀ m, m ∈ names → Wd m) → P b → w.heap[b]? = some (.cells #[.int .i64 (max (dps kids) (dp y) + 1 : Nat), nv, vv, q] 291 (0, 0)) →
      w.ownsRow 0 9 1 nv names.length (names.map Value.string) → w.ownsRow 0 107 1 vv ps.length ps → (∀ g, nv.ownBlock = some g → P g) → (∀ g, vv.ownBlock = some g → P g) → ps.length = kids.length → names.length = kids.length → (∀ (j : Nat) (x : X) (p : Value), kids[j]? = some x → ps[j]? = some p → PX w P x p) → PX w P y q → PX w P (.mk { data := #[114, 101, 99] } names (kids ++ [y]) loc) (.iface 250 (.pointer (some ⟨b, 0, none⟩)))

theorem row_same {w w' : World} {P : Nat → Prop} (hk : ∀ b, P b → b < w.heap.size → w'.heap[b]? = w.heap[b]?) {B : Nat} {e : TypeId} {z : Nat} {v : Value} {n : Nat} {xs : List Value} (hP : ∀ g, v.ownBlock = some g → P g) (h : w.ownsRow B e z v n xs) : w'.ownsRow B e z v n xs := by
  refine ⟨h.1, ?_⟩
  rcases h.2 with h | ⟨g, cap, cur, h1, h2, h3, h4⟩
  · exact .inl h
  · subst h1
    exact .inr ⟨g, cap, cur, rfl, h2, (hk g (hP g rfl) (lt_of_block h3)).trans h3, h4⟩
theorem PX.keep {w w' : World} {P : Nat → Prop} (hk : ∀ b, P b → b < w.heap.size → w'.heap[b]? = w.heap[b]?) {t : X} {v : Value} (h : PX w P t v) : PX w' P t v := by
  have hb : ∀ {b o}, P b → w.heap[b]? = some o → w'.heap[b]? = some o := fun hP h => (hk _ hP (lt_of_block h)).trans h
  induction h with
  | name n loc b hW hP h   => exact .name n loc b hW hP (hb hP h) 
  | num n loc b hW hP h   => exact .num n loc b hW hP (hb hP h) 
  | fn n x loc b p hW hP h _ i0 => exact .fn n x loc b p hW hP (hb hP h) i0
  | ite x y z loc b p q r hP h _ _ _ i0 i1 i2 => exact .ite x y z loc b p q r hP (hb hP h) i0 i1 i2
  | lt n x y loc b p q hW hP h _ _ i0 i1 => exact .lt n x y loc b p q hW hP (hb hP h) i0 i1
  | app x y loc b p q hP h _ _ i0 i1 => exact .app x y loc b p q hP (hb hP h) i0 i1
  | pair x y loc b p q hP h _ _ i0 i1 => exact .pair x y loc b p q hP (hb hP h) i0 i1
  | rc names kids y loc b nv vv q ps hN hW hP h hn hv hnP hvP hl hl2 _ _ i j => exact .rc names kids y loc b nv vv q ps hN hW hP (hb hP h) (row_same hk hnP hn) (row_same hk hvP hv) hnP hvP hl hl2 i j
theorem PX.mono {w : World} {P Q : Nat → Prop} (hPQ : ∀ b, P b → b < w.heap.size → Q b) {t : X} {v : Value} (h : PX w P t v) : PX w Q t v := by
  have hg : ∀ {e : TypeId} {v : Value} {n : Nat} {xs : List Value}, w.ownsRow 0 e 1 v n xs → (∀ g, v.ownBlock = some g → P g) → ∀ g, v.ownBlock = some g → Q g := fun h hP g e => by
    refine hPQ g (hP g e) ?_
    rcases h.2 with ⟨rfl, _⟩ | ⟨g', cap, cur, h1, h2, h3, h4⟩
    · cases e
    · subst h1
      cases e
      exact lt_of_block h3
  induction h with
  | name n loc b hW hP h   => exact .name n loc b hW (hPQ _ hP (lt_of_block h)) h 
  | num n loc b hW hP h   => exact .num n loc b hW (hPQ _ hP (lt_of_block h)) h 
  | fn n x loc b p hW hP h _ i0 => exact .fn n x loc b p hW (hPQ _ hP (lt_of_block h)) h i0
  | ite x y z loc b p q r hP h _ _ _ i0 i1 i2 => exact .ite x y z loc b p q r (hPQ _ hP (lt_of_block h)) h i0 i1 i2
  | lt n x y loc b p q hW hP h _ _ i0 i1 => exact .lt n x y loc b p q hW (hPQ _ hP (lt_of_block h)) h i0 i1
  | app x y loc b p q hP h _ _ i0 i1 => exact .app x y loc b p q (hPQ _ hP (lt_of_block h)) h i0 i1
  | pair x y loc b p q hP h _ _ i0 i1 => exact .pair x y loc b p q (hPQ _ hP (lt_of_block h)) h i0 i1
  | rc names kids y loc b nv vv q ps hN hW hP h hn hv hnP hvP hl hl2 _ _ i j => exact .rc names kids y loc b nv vv q ps hN hW (hPQ _ hP (lt_of_block h)) h hn hv (hg hn hnP) (hg hv hvP) hl hl2 i j
/-- the kinds of the blocks that expressions lie in. -/
def isXT (e : TypeId) : Bool := e == 239 || e == 261 || e == 242 || e == 246 || e == 249 || e == 291 || e == 254 || e == 257 || e == 9 || e == 107
def XKeep (w w' : World) : Prop := ∀ (k : Nat) (cs : Array Value) (e : TypeId) (f : Nat × Nat), isXT e = true → w.heap[k]? = some (.cells cs e f) → w'.heap[k]? = some (.cells cs e f)
theorem XKeep.row {w w' : World} (hk : XKeep w w') {B : Nat} {e : TypeId} {z : Nat} {v : Value} {n : Nat} {xs : List Value} (he : isXT e = true) (h : w.ownsRow B e z v n xs) : w'.ownsRow B e z v n xs := by
  refine ⟨h.1, ?_⟩
  rcases h.2 with h | ⟨g, cap, cur, h1, h2, h3, h4⟩
  · exact .inl h
  · exact .inr ⟨g, cap, cur, h1, h2, hk g _ e _ he h3, h4⟩
theorem PX.keepT {w w' : World} {P : Nat → Prop} (hk : XKeep w w') {t : X} {v : Value} (h : PX w P t v) : PX w' P t v := by
  induction h with
  | name n loc b hW hP h => exact .name n loc b hW hP (hk _ _ _ _ (by decide) h)
  | num n loc b hW hP h => exact .num n loc b hW hP (hk _ _ _ _ (by decide) h)
  | fn n x loc b p hW hP h _ i0 => exact .fn n x loc b p hW hP (hk _ _ _ _ (by decide) h) i0
  | ite x y z loc b p q r hP h _ _ _ i0 i1 i2 => exact .ite x y z loc b p q r hP (hk _ _ _ _ (by decide) h) i0 i1 i2
  | lt n x y loc b p q hW hP h _ _ i0 i1 => exact .lt n x y loc b p q hW hP (hk _ _ _ _ (by decide) h) i0 i1
  | app x y loc b p q hP h _ _ i0 i1 => exact .app x y loc b p q hP (hk _ _ _ _ (by decide) h) i0 i1
  | pair x y loc b p q hP h _ _ i0 i1 => exact .pair x y loc b p q hP (hk _ _ _ _ (by decide) h) i0 i1
  | rc names kids y loc b nv vv q ps hN hW hP h hn hv hnP hvP hl hl2 _ _ i j => exact .rc names kids y loc b nv vv q ps hN hW hP (hk _ _ _ _ (by decide) h) (hk.row (by decide) hn) (hk.row (by decide) hv) hnP hvP hl hl2 i j
theorem PX.iface {w : World} {P : Nat → Prop} {t : X} {v : Value} (h : PX w P t v) : ∃ T u, v = .iface T u := by
  cases h <;> exact ⟨_, _, rfl⟩
end Go.Proofs.YtleenphlgbklmabGreatDoor

namespace Go.Proofs.YtleenphlgbklmabGreatDoor
open Go.RowKit

theorem pdep_any (d : Int) (w : World) : Calls Tryz.prog 242 #[.agg #[.int .i64 d]] w fun e w' => e = .returned (.int .i64 d) ∧ Kp (fun _ => False) w w' := by
  go_enter Tryz.func242, Tryz.ntmps242
  go_wp2
  go_ret
  exact ⟨rfl, (Kp.refl _ _).alloc _⟩
theorem mdep_Na (b : Nat) (w : World) (cs : Array Value) (d : Int) (h : w.heap[b]? = some (.cells cs 239 (0, 0))) (h0 : cs[0]? = some (.int .i64 d)) : (Go.method 473 233 (.pointer (some ⟨b, 0, none⟩)) "schemes/infer.depth").run Tryz.prog w = .ok (242, .agg #[.int .i64 d]) w := by
  have e : (Go.method 473 233 (.pointer (some ⟨b, 0, none⟩)) "schemes/infer.depth").run Tryz.prog w = ((do let v ← loadVar 237 ⟨b, 0, none⟩; pure (242, v)) : Sem (FuncId × Value)).run Tryz.prog w := by kernel_rfl
  rw [e]
  simp [go_sem, World.cell?, h, h0]
theorem mdep_Nu (b : Nat) (w : World) (cs : Array Value) (d : Int) (h : w.heap[b]? = some (.cells cs 261 (0, 0))) (h0 : cs[0]? = some (.int .i64 d)) : (Go.method 473 259 (.pointer (some ⟨b, 0, none⟩)) "schemes/infer.depth").run Tryz.prog w = .ok (242, .agg #[.int .i64 d]) w := by
  have e : (Go.method 473 259 (.pointer (some ⟨b, 0, none⟩)) "schemes/infer.depth").run Tryz.prog w = ((do let v ← loadVar 237 ⟨b, 0, none⟩; pure (242, v)) : Sem (FuncId × Value)).run Tryz.prog w := by kernel_rfl
  rw [e]
  simp [go_sem, World.cell?, h, h0]
theorem mdep_Fu (b : Nat) (w : World) (cs : Array Value) (d : Int) (h : w.heap[b]? = some (.cells cs 242 (0, 0))) (h0 : cs[0]? = some (.int .i64 d)) : (Go.method 473 240 (.pointer (some ⟨b, 0, none⟩)) "schemes/infer.depth").run Tryz.prog w = .ok (242, .agg #[.int .i64 d]) w := by
  have e : (Go.method 473 240 (.pointer (some ⟨b, 0, none⟩)) "schemes/infer.depth").run Tryz.prog w = ((do let v ← loadVar 237 ⟨b, 0, none⟩; pure (242, v)) : Sem (FuncId × Value)).run Tryz.prog w := by kernel_rfl
  rw [e]
  simp [go_sem, World.cell?, h, h0]
theorem mdep_If (b : Nat) (w : World) (cs : Array Value) (d : Int) (h : w.heap[b]? = some (.cells cs 246 (0, 0))) (h0 : cs[0]? = some (.int .i64 d)) : (Go.method 473 244 (.pointer (some ⟨b, 0, none⟩)) "schemes/infer.depth").run Tryz.prog w = .ok (242, .agg #[.int .i64 d]) w := by
  have e : (Go.method 473 244 (.pointer (some ⟨b, 0, none⟩)) "schemes/infer.depth").run Tryz.prog w = ((do let v ← loadVar 237 ⟨b, 0, none⟩; pure (242, v)) : Sem (FuncId × Value)).run Tryz.prog w := by kernel_rfl
  rw [e]
  simp [go_sem, World.cell?, h, h0]
theorem mdep_Le (b : Nat) (w : World) (cs : Array Value) (d : Int) (h : w.heap[b]? = some (.cells cs 249 (0, 0))) (h0 : cs[0]? = some (.int .i64 d)) : (Go.method 473 247 (.pointer (some ⟨b, 0, none⟩)) "schemes/infer.depth").run Tryz.prog w = .ok (242, .agg #[.int .i64 d]) w := by
  have e : (Go.method 473 247 (.pointer (some ⟨b, 0, none⟩)) "schemes/infer.depth").run Tryz.prog w = ((do let v ← loadVar 237 ⟨b, 0, none⟩; pure (242, v)) : Sem (FuncId × Value)).run Tryz.prog w := by kernel_rfl
  rw [e]
  simp [go_sem, World.cell?, h, h0]
theorem mdep_Re (b : Nat) (w : World) (cs : Array Value) (d : Int) (h : w.heap[b]? = some (.cells cs 291 (0, 0))) (h0 : cs[0]? = some (.int .i64 d)) : (Go.method 473 250 (.pointer (some ⟨b, 0, none⟩)) "schemes/infer.depth").run Tryz.prog w = .ok (242, .agg #[.int .i64 d]) w := by
  have e : (Go.method 473 250 (.pointer (some ⟨b, 0, none⟩)) "schemes/infer.depth").run Tryz.prog w = ((do let v ← loadVar 237 ⟨b, 0, none⟩; pure (242, v)) : Sem (FuncId × Value)).run Tryz.prog w := by kernel_rfl
  rw [e]
  simp [go_sem, World.cell?, h, h0]
theorem mdep_Ap (b : Nat) (w : World) (cs : Array Value) (d : Int) (h : w.heap[b]? = some (.cells cs 254 (0, 0))) (h0 : cs[0]? = some (.int .i64 d)) : (Go.method 473 252 (.pointer (some ⟨b, 0, none⟩)) "schemes/infer.depth").run Tryz.prog w = .ok (242, .agg #[.int .i64 d]) w := by
  have e : (Go.method 473 252 (.pointer (some ⟨b, 0, none⟩)) "schemes/infer.depth").run Tryz.prog w = ((do let v ← loadVar 237 ⟨b, 0, none⟩; pure (242, v)) : Sem (FuncId × Value)).run Tryz.prog w := by kernel_rfl
  rw [e]
  simp [go_sem, World.cell?, h, h0]
theorem mdep_Pa (b : Nat) (w : World) (cs : Array Value) (d : Int) (h : w.heap[b]? = some (.cells cs 257 (0, 0))) (h0 : cs[0]? = some (.int .i64 d)) : (Go.method 473 255 (.pointer (some ⟨b, 0, none⟩)) "schemes/infer.depth").run Tryz.prog w = .ok (242, .agg #[.int .i64 d]) w := by
  have e : (Go.method 473 255 (.pointer (some ⟨b, 0, none⟩)) "schemes/infer.depth").run Tryz.prog w = ((do let v ← loadVar 237 ⟨b, 0, none⟩; pure (242, v)) : Sem (FuncId × Value)).run Tryz.prog w := by kernel_rfl
  rw [e]
  simp [go_sem, World.cell?, h, h0]
theorem PX.dep {w : World} {P : Nat → Prop} {x : X} {v : Value} (h : PX w P x v) : ∃ T u, v = .iface T u ∧ (Go.method 473 T u "schemes/infer.depth").run Tryz.prog w = .ok (242, .agg #[.int .i64 (dp x)]) w := by
  cases h with
  | name n loc b _ _ h => exact ⟨_, _, rfl, mdep_Na b w _ _ h (by simp [dp, dps])⟩
  | num n loc b _ _ h => exact ⟨_, _, rfl, mdep_Nu b w _ _ h (by simp [dp, dps])⟩
  | fn n x loc b p _ _ h => exact ⟨_, _, rfl, mdep_Fu b w _ _ h (by simp [dp, dps])⟩
  | ite x y z loc b p q r _ h => exact ⟨_, _, rfl, mdep_If b w _ _ h (by simp [dp, dps])⟩
  | lt n x y loc b p q _ _ h => exact ⟨_, _, rfl, mdep_Le b w _ _ h (by simp [dp, dps])⟩
  | rc names kids y loc b nv vv q ps _ _ _ h => exact ⟨_, _, rfl, mdep_Re b w _ _ h (by simp [dp, dps_append])⟩
  | app x y loc b p q _ h => exact ⟨_, _, rfl, mdep_Ap b w _ _ h (by simp [dp, dps])⟩
  | pair x y loc b p q _ h => exact ⟨_, _, rfl, mdep_Pa b w _ _ h (by simp [dp, dps])⟩
theorem PX.kp {w w' : World} {P : Nat → Prop} {x : X} {v : Value} (h : PX w P x v) (k : Kp (fun _ => False) w w') : PX w' P x v := h.keep (fun b _ hb => k.block b hb (fun z => z))

set_option maxRecDepth 20000 in
set_option maxHeartbeats 1000000 in
theorem above_any (xs : List X) (ps : List Value) (g c : Nat) (w : World) (P : Nat → Prop) (hl : ps.length = xs.length) (hg : ∀ j, j < ps.length → w.cell? ⟨g, j, none⟩ = ps[j]?) (hx : ∀ (j : Nat) (x : X) (p : Value), xs[j]? = some x → ps[j]? = some p → PX w P x p) (hb : ps.length ≤ 1000000) (hd : dps xs ≤ 1000000) :
    Calls Tryz.prog 150 #[.slice (some ⟨g, 0, none⟩) ps.length c] w fun e w' => e = .returned (.agg #[.int .i64 (dps xs + 1 : Nat)]) ∧ Kp (fun _ => False) w w' := by
  have HL : Hid (ps.length = xs.length) := hl
  clear hl
  go_enter Tryz.func150, Tryz.ntmps150
  go_wp2
  have hk0 : Kp (fun _ => False) w (w.alloc (.cells #[.int .i64 0] 237)) := (Kp.refl _ _).alloc _
  have hc0 : (w.alloc (.cells #[.int .i64 0] 237)).heap[w.heap.size]? = some (.cells #[.int .i64 0] 237 (0, 0)) := heap_alloc_new _ _
  generalize w.alloc (.cells #[.int .i64 0] 237) = w0 at *
  go_loopw [3, 8] (fun d i wr => Kp (fun _ => False) w0 wr ∧ ∃ q : Nat, q ≤ ps.length ∧ i = .int .i64 q ∧ d = .int .i64 (dps (xs.take q))) (fun _ i _ => ps.length - (intOf i).toNat)
  case atStart => exact ⟨Kp.refl _ _, 0, Nat.zero_le _, rfl, by simp [dps]⟩
  case round =>
    obtain ⟨hkr, q, hq, rfl, rfl⟩ := hrel
    by_cases hlt : q < ps.length
    · have hxl : q < xs.length := by rw [← HL.out]; exact hlt
      have hpx := (hx q xs[q] ps[q] (by simp [hxl]) (by simp [hlt])).kp (hk0.trans hkr)
      obtain ⟨T, u, hTu, hm⟩ := hpx.dep
      have hgc := hg q hlt
      rw [List.getElem?_eq_getElem hlt, hTu] at hgc
      have hc := (hk0.trans hkr).cell hgc
      have hst : Hid (dps (xs.take (q + 1)) = max (dps (xs.take q)) (dp xs[q])) := by
        show _ = _
        rw [List.take_succ_eq_append_getElem hxl, dps_append]
      have hle := dps_le (List.getElem_mem hxl)
      have htl := dps_take_le xs q
      clear hpx hgc hTu hx hg hk0
      generalize dp xs[q] = d at *
      generalize dps (xs.take q) = nq at *
      go_wp2_with (go_at_call 242; refine (pdep_any _ _).mono ?_; rintro e w1 ⟨rfl, hk1⟩)
      refine ⟨⟨hkr.trans hk1, q + 1, by omega, by go_num, ?_⟩, by simp [intOf]; omega⟩
      rw [hst.out]
      congr 1
      split <;> omega
    · have hq2 : q = xs.length := by rw [← HL.out]; omega
      have hk : Hid (xs.take q = xs) := by show _ = _; rw [hq2, List.take_length]
      have hle := dps_take_le xs q
      have hcr := hkr.blk hc0 (fun z => z)
      have r0 : wr.cell? ⟨w.heap.size, 0, none⟩ = some (.int .i64 0) := by simp [World.cell?, hcr]
      have f0 : wr.frozen? ⟨w.heap.size, 0, none⟩ = false := by simp [World.frozen?, hcr]
      clear hx hg hq2
      have d0 : (wr.setCell ⟨w.heap.size, 0, none⟩ (.int .i64 ((dps (xs.take q) : Nat) + 1))).cell? ⟨w.heap.size, 0, none⟩ = some (.int .i64 ((dps (xs.take q) : Nat) + 1)) := by simp [World.cell?, World.setCell, hcr, Array.getElem?_modify]
      have hF : Kp (fun _ => False) w (wr.setCell ⟨w.heap.size, 0, none⟩ (.int .i64 ((dps (xs.take q) : Nat) + 1))) := (hk0.trans hkr).setCell _ _ (fun z => by simp at z)
      clear hcr hc0
      go_wp2
      exact bodyPost_ret (v := .agg #[.int .i64 ((dps (xs.take q) : Nat) + 1)]) (by simp [results, Tryz.results150, go_sem, d0]) rfl ⟨by rw [hk.out]; rfl, hF⟩
theorem above_none (w : World) : Calls Tryz.prog 150 #[.slice none 0 0] w fun e w' => e = .returned (.agg #[.int .i64 1]) ∧ Kp (fun _ => False) w w' := by
  go_enter Tryz.func150, Tryz.ntmps150
  go_wp2
  have hk0 : Kp (fun _ => False) w (w.alloc (.cells #[.int .i64 0] 237)) := (Kp.refl _ _).alloc _
  have hcr : (w.alloc (.cells #[.int .i64 0] 237)).heap[w.heap.size]? = some (.cells #[.int .i64 0] 237 (0, 0)) := heap_alloc_new _ _
  generalize w.alloc (.cells #[.int .i64 0] 237) = wr at *
  have r0 : wr.cell? ⟨w.heap.size, 0, none⟩ = some (.int .i64 0) := by simp [World.cell?, hcr]
  have f0 : wr.frozen? ⟨w.heap.size, 0, none⟩ = false := by simp [World.frozen?, hcr]
  have d0 : (wr.setCell ⟨w.heap.size, 0, none⟩ (.int .i64 1)).cell? ⟨w.heap.size, 0, none⟩ = some (.int .i64 1) := by simp [World.cell?, World.setCell, hcr, Array.getElem?_modify]
  have hF : Kp (fun _ => False) w (wr.setCell ⟨w.heap.size, 0, none⟩ (.int .i64 1)) := hk0.setCell _ _ (fun z => by simp at z)
  clear hcr
  refine wp_loop_rounds 1 ?_
  rw [rounds_succ]
  go_wp2
  exact bodyPost_ret (v := .agg #[.int .i64 1]) (by simp [results, Tryz.results150, go_sem, d0]) rfl ⟨rfl, hF⟩
end Go.Proofs.YtleenphlgbklmabGreatDoor

namespace Go.Proofs.YtleenphlgbklmabGreatDoor
open Go.RowKit

/-- the sentinels and errors' own type, as the program's variables hold them. -/
structure Glb (A : Nat → Addr) (w : World) : Prop where
  blk : ∀ k, k < 8 → ∃ c t, w.heap[(A k).block]? = some (.cells c t (0, 0))
  ne : ∀ i j, i < 8 → j < 8 → i ≠ j → A i ≠ A j
  c0 : w.cell? ⟨0, 0, none⟩ = some (.iface 342 (.pointer (some (A 0))))
  c1 : w.cell? ⟨1, 0, none⟩ = some (.iface 342 (.pointer (some (A 1))))
  c2 : w.cell? ⟨2, 0, none⟩ = some (.iface 342 (.pointer (some (A 2))))
  c3 : w.cell? ⟨3, 0, none⟩ = some (.iface 342 (.pointer (some (A 3))))
  c4 : w.cell? ⟨4, 0, none⟩ = some (.iface 342 (.pointer (some (A 4))))
  c5 : w.cell? ⟨5, 0, none⟩ = some (.iface 342 (.pointer (some (A 5))))
  c6 : w.cell? ⟨6, 0, none⟩ = some (.iface 342 (.pointer (some (A 6))))
  c7 : w.cell? ⟨7, 0, none⟩ = some (.iface 342 (.pointer (some (A 7))))
  et : w.cell? ⟨8, 0, none⟩ = some (.iface 206 (.agg #[.pointer (some ⟨13, 56, none⟩)]))

theorem Glb.below {A : Nat → Addr} {w w' : World} (h : Glb A w) (hb : Below w.heap.size w w') : Glb A w' := by
  have cc : ∀ {a : Addr} {v : Value}, w.cell? a = some v → w'.cell? a = some v := fun {a v} e => (hb.cell (World.block_lt_of_cell? _ _ e)).trans e
  refine ⟨fun k hk => ?_, h.ne, cc h.c0, cc h.c1, cc h.c2, cc h.c3, cc h.c4, cc h.c5, cc h.c6, cc h.c7, cc h.et⟩
  obtain ⟨c, t, e⟩ := h.blk k hk
  exact ⟨c, t, (hb.block _ (lt_of_block e)).trans e⟩

/-- what plain tells of an error. -/
def faultVal (what loc : Int) (s : ByteArray) : Value := .agg #[.int .i64 what, .int .i64 loc, .string s, .int .i64 0, .int .i64 0]

/-- the number by which plain tells a sentinel. -/
def senNo (j : Nat) : Int := [1, 3, 6, 7, 8, 9, 10, 11].getD j (-1)

/-- the world behind the variables of plain.fault. -/
def fltW (w : World) : World := (((w.alloc (.cells #[.int .i64 0, .int .i64 0, .string { data := #[] }, .int .i64 0, .int .i64 0] 23)).alloc (.cells #[.pointer none] 83)).alloc (.cells #[.pointer none] 84)).alloc (.cells #[.pointer none] 85)
theorem fltW_size (w : World) : (fltW w).heap.size = w.heap.size + 4 := by simp [fltW]
theorem fltW_below (w : World) : Below w.heap.size w (fltW w) := ((((Below.refl _ _).alloc (by simp) _).alloc (by simp) _).alloc (by simp; omega) _).alloc (by simp; omega) _
theorem fltW_r (w : World) : (fltW w).heap[w.heap.size]? = some (.cells #[.int .i64 0, .int .i64 0, .string { data := #[] }, .int .i64 0, .int .i64 0] 23 (0, 0)) := by
  unfold fltW
  rw [Below.heap_alloc _ _ _ (by simp; omega), Below.heap_alloc _ _ _ (by simp; omega), Below.heap_alloc _ _ _ (by simp)]
  exact heap_alloc_new _ _
/-- the result, stored. -/
def fltSet (w : World) (fb : Nat) (v0 v1 v2 v3 v4 : Value) : World := ((((w.setCell ⟨fb, 0, none⟩ v0).setCell ⟨fb, 1, none⟩ v1).setCell ⟨fb, 2, none⟩ v2).setCell ⟨fb, 3, none⟩ v3).setCell ⟨fb, 4, none⟩ v4
theorem fltSet_blk {w : World} {fb : Nat} {a b c d e : Value} {t : TypeId} (h : w.heap[fb]? = some (.cells #[a, b, c, d, e] t (0, 0))) (v0 v1 v2 v3 v4 : Value) : (fltSet w fb v0 v1 v2 v3 v4).heap[fb]? = some (.cells #[v0, v1, v2, v3, v4] t (0, 0)) := by
  simp [fltSet, World.setCell, h, Array.getElem?_modify]
theorem fltSet_below {B : Nat} {a w : World} (h : Below B a w) {fb : Nat} (hf : B ≤ fb) (v0 v1 v2 v3 v4 : Value) : Below B a (fltSet w fb v0 v1 v2 v3 v4) :=
  ((((h.setCell (by simpa using hf) _).setCell (by simpa using hf) _).setCell (by simpa using hf) _).setCell (by simpa using hf) _).setCell (by simpa using hf) _

set_option maxRecDepth 20000 in
set_option maxHeartbeats 4000000 in
theorem fault_nil (w : World) : Calls Tryz.prog 22 #[.nilIface] w fun e w' => e = .returned (faultVal 0 0 { data := #[] }) ∧ Below w.heap.size w w' := by
  go_enter Tryz.func22, Tryz.ntmps22
  go_wp2_with (go_at_call 38; refine (as_nil _ _).mono ?_; rintro e w' ⟨rfl, hww⟩; rw [hww]; clear hww w')
  change bodyPost _ _ _ _ _ (fltW w)
  have hr := fltW_r w
  have hB := fltW_below w
  generalize fltW w = w1 at *
  have d0 : w1.cell? ⟨w.heap.size, 0, none⟩ = some (.int .i64 0) := by simp [World.cell?, hr]
  have d1 : w1.cell? ⟨w.heap.size, 1, none⟩ = some (.int .i64 0) := by simp [World.cell?, hr]
  have d2 : w1.cell? ⟨w.heap.size, 2, none⟩ = some (.string { data := #[] }) := by simp [World.cell?, hr]
  have d3 : w1.cell? ⟨w.heap.size, 3, none⟩ = some (.int .i64 0) := by simp [World.cell?, hr]
  have d4 : w1.cell? ⟨w.heap.size, 4, none⟩ = some (.int .i64 0) := by simp [World.cell?, hr]
  exact bodyPost_ret (v := faultVal 0 0 { data := #[] }) (by simp [results, Tryz.results22, go_sem, faultVal, d0, d1, d2, d3, d4]) rfl ⟨rfl, hB⟩

end Go.Proofs.YtleenphlgbklmabGreatDoor
